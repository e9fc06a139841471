/- Texts of the proof, bundled: Es, Em. -/
import Derived.Test.YtljooldjcefkoaaGreatU21
import Derived.Test.YtljooldjcefkoaaGreatU17
/- impl.sameBits, exactInode and the closure of ExactDisk by their contracts. -/
namespace Go.Proofs.YtljooldjcefkoaaGreat
open Go.RowKit Kit
theorem allEq_bool : ∀ (a b : List Bool), Go.Lib.allEq (fun x y => x == y) a b = decide (a = b)
  | [], [] => rfl
  | x :: r, y :: s => by
    have := allEq_bool r s
    simp only [Go.Lib.allEq, this]
    cases x <;> cases y <;> simp
  | [], _ :: _ => by simp [Go.Lib.allEq]
  | _ :: _, [] => by simp [Go.Lib.allEq]
theorem equalB_any (u v : Value) (a b : List Bool) (w : World) (h1 : RFl w u a) (h2 : RFl w v b) (ha : 0 < a.length ∧ a.length ≤ 100) (hb : 0 < b.length ∧ b.length ≤ 100) :
    Calls Tryz.prog 78 #[u, v] w fun e w' => e = .returned (.bool (decide (a = b))) ∧ ∃ q, w' = w.drewN q := by
  obtain ⟨a1, c1, rfl⟩ : ∃ a1 c1, u = .slice a1 a.length c1 := by obtain ⟨x, y, e, -⟩ := h1; exact ⟨x, y, e⟩
  obtain ⟨a2, c2, rfl⟩ : ∃ a1 c1, v = .slice a1 b.length c1 := by obtain ⟨x, y, e, -⟩ := h2; exact ⟨x, y, e⟩
  obtain ⟨g1, o1, rfl, -, k1⟩ := bits_base h1 ha.1
  obtain ⟨g2, o2, rfl, -, k2⟩ := bits_base h2 hb.1
  have := Tryz.slices_Equal Value.bool (fun x y => x == y) (NeqAt.bool 4 Tryz.underlying4) g1 o1 a.length c1 g2 o2 b.length c2 a b w (Nat.le_refl _) (Nat.le_refl _) (by omega) (by omega) (fun j hj => by rw [k1 j hj]; simp [hj]) (fun j hj => by rw [k2 j hj]; simp [hj])
  rw [List.take_length, List.take_length, allEq_bool] at this
  exact this
set_option maxRecDepth 100000 in
set_option maxHeartbeats 1600000 in
theorem sameB_any (u v u' v' : Value) (a b a' b' : List Bool) (w : World) (h1 : RFl w u a) (h2 : RFl w v b) (h3 : RFl w u' a') (h4 : RFl w v' b') (ha : a.length = 16) (hb : b.length = 8) (ha' : a'.length = 16) (hb' : b'.length = 8) :
    Calls Tryz.prog 38 #[.agg #[u, v], .agg #[u', v']] w fun e w' => e = .returned (.bool (decide (a = a') && decide (b = b'))) ∧ Below w.heap.size w w' := by
  obtain ⟨x1, y1, rfl⟩ : ∃ a1 c1, u = .slice a1 a.length c1 := by obtain ⟨x, y, e, -⟩ := h1; exact ⟨x, y, e⟩
  obtain ⟨x2, y2, rfl⟩ : ∃ a1 c1, v = .slice a1 b.length c1 := by obtain ⟨x, y, e, -⟩ := h2; exact ⟨x, y, e⟩
  obtain ⟨x3, y3, rfl⟩ : ∃ a1 c1, u' = .slice a1 a'.length c1 := by obtain ⟨x, y, e, -⟩ := h3; exact ⟨x, y, e⟩
  obtain ⟨x4, y4, rfl⟩ : ∃ a1 c1, v' = .slice a1 b'.length c1 := by obtain ⟨x, y, e, -⟩ := h4; exact ⟨x, y, e⟩
  have C1 := hide (fun (W : World) (hb' : Below w.heap.size w W) => equalB_any _ _ a a' W (h1.below hb' (Nat.le_refl _)) (h3.below hb' (Nat.le_refl _)) (by omega) (by omega))
  have C2 := hide (fun (W : World) (hb'' : Below w.heap.size w W) => equalB_any _ _ b b' W (h2.below hb'' (Nat.le_refl _)) (h4.below hb'' (Nat.le_refl _)) (by omega) (by omega))
  obtain ⟨W0, hW0⟩ : ∃ W, ((w.alloc (.cells #[.slice x1 a.length y1, .slice x2 b.length y2] 31)).alloc (.cells #[.slice x3 a'.length y3, .slice x4 b'.length y4] 31)) = W := ⟨_, rfl⟩
  have HA : Hid (AtC W0 w.heap.size 31 #[.slice x1 a.length y1, .slice x2 b.length y2] ∧ AtC W0 (w.heap.size + 1) 31 #[.slice x3 a'.length y3, .slice x4 b'.length y4] ∧ Below w.heap.size w W0) := by
    rw [← hW0]
    have q := AtC.new (w.alloc (.cells #[.slice x1 a.length y1, .slice x2 b.length y2] 31)) 31 #[.slice x3 a'.length y3, .slice x4 b'.length y4]
    rw [World.size_alloc] at q
    exact ⟨(AtC.new w 31 _).alloc _, q, ((Below.refl _ w).alloc (Nat.le_refl _) _).alloc (by simp) _⟩
  obtain ⟨d1, hd1⟩ : ∃ r, decide (a = a') = r := ⟨_, rfl⟩
  obtain ⟨d2, hd2⟩ : ∃ r, decide (b = b') = r := ⟨_, rfl⟩
  simp only [hd1] at C1 ⊢
  simp only [hd2] at C2 ⊢
  have m0 : W0.cell? ⟨w.heap.size, 0, none⟩ = some (.slice x1 a.length y1) := HA.out.1.cell 0
  have m1 : W0.cell? ⟨w.heap.size + 1, 0, none⟩ = some (.slice x3 a'.length y3) := HA.out.2.1.cell 0
  have D1 := hide (C1.out W0 HA.out.2.2)
  clear h1 h2 h3 h4 ha hb ha' hb' hd1 hd2 C1
  go_enter Tryz.func38, Tryz.ntmps38
  go_wp2_with fail
  refine D1.out.mono ?_
  rintro e w1 ⟨rfl, q, rfl⟩
  have HB1 : Hid (Below W0.heap.size W0 (W0.drewN q)) := below_drewN (Below.refl _ _) q
  cases d1 with
  | false =>
    go_wp2
    go_ret
    exact ⟨rfl, HA.out.2.2.trans (HB1.out.mono HA.out.2.2.size)⟩
  | true =>
    have n0 : (W0.drewN q).cell? ⟨w.heap.size, 1, none⟩ = some (.slice x2 b.length y2) := (HA.out.1.over HB1.out).cell 1
    have n1 : (W0.drewN q).cell? ⟨w.heap.size + 1, 1, none⟩ = some (.slice x4 b'.length y4) := (HA.out.2.1.over HB1.out).cell 1
    have D2 := hide (C2.out (W0.drewN q) (HA.out.2.2.trans (HB1.out.mono HA.out.2.2.size)))
    obtain ⟨W1, hW1⟩ : ∃ W, W0.drewN q = W := ⟨_, rfl⟩
    rw [hW1] at n0 n1 D2 HB1 ⊢
    clear hW1
    go_wp2_with fail
    refine D2.out.mono ?_
    rintro e w2 ⟨rfl, q2, rfl⟩
    have HB2 : Hid (Below w.heap.size w (W1.drewN q2)) := below_drewN (HA.out.2.2.trans (HB1.out.mono HA.out.2.2.size)) q2
    go_wp2
    go_ret
    exact ⟨rfl, HB2.out⟩
/-- What is asked of an inode of some kind. -/
noncomputable def inoI (is : List Ino) (bs : List Blk) (j : Nat) : Bool := if j = 0 then decide (lnkAt is j = 1) && decide (linksN is bs ((j : Int) + 1) = 0) else (reachL is bs).contains ((j : Int) + 1) && decide (lnkAt is j = (linksN is bs ((j : Int) + 1) : Int)) && (decide (¬ kindAt is ((j : Int) + 1) = 2) || decide (linksN is bs ((j : Int) + 1) = 1))
set_option maxRecDepth 100000 in
set_option maxHeartbeats 6400000 in
theorem ex42_any (j : Nat) (dx dy iv bv : Value) (xs ys : List Bool) (is : List Ino) (bs : List Blk) (w : World) (h : DR w dx dy iv bv xs ys is bs) (hX : RX xs ys is bs) (hj8 : j < 8) :
    Calls Tryz.prog 42 #[.agg #[dx, dy, iv, bv], .int .i64 ((j : Int) + 1)] w fun e w' => e = .returned (.bool (inoI is bs j)) ∧ Below w.heap.size w w' := by
  obtain ⟨a1, c1, a2, c2, a3, c3, a4, c4, rfl, rfl, rfl, rfl⟩ := h.form
  have hj : j < is.length := by rw [hX.r.hi]; exact hj8
  obtain ⟨g2, o2, sa, sc, rfl, hg2, y0, y1, y2, -⟩ := DR.ino h j hj
  have el : lnkAt is j = is[j].2.1 := by unfold lnkAt; simp [hj]
  rw [← el] at y1
  have j0 : (0 : Int) ≤ (j : Int) := by omega
  have j2 : (j : Int) < (is.length : Int) := by omega
  have hwj : IntKind.i64.wrap (j : Int) = (j : Int) := wrap_small _ (by omega) (by omega)
  have CL := hide (fun (W : World) (hb : Below w.heap.size w W) => implLinks_any ((j : Int) + 1) (.slice a1 xs.length c1) (.slice a2 ys.length c2) (.slice (some ⟨g2, o2, none⟩) is.length c3) (.slice a4 bs.length c4) xs ys is bs W (h.below hb (Nat.le_refl _)) hX.r)
  have CR := hide (fun (W : World) (hb : Below w.heap.size w W) => implReach_any (.slice a1 xs.length c1) (.slice a2 ys.length c2) (.slice (some ⟨g2, o2, none⟩) is.length c3) (.slice a4 bs.length c4) xs ys is bs W (h.below hb (Nat.le_refl _)) hX.r)
  have HR8 := hide (reachL_len is bs)
  have HIN : Hid (inoI is bs j = if j = 0 then decide (lnkAt is j = 1) && decide (linksN is bs ((j : Int) + 1) = 0) else (reachL is bs).contains ((j : Int) + 1) && decide (lnkAt is j = (linksN is bs ((j : Int) + 1) : Int)) && (decide (¬ kindAt is ((j : Int) + 1) = 2) || decide (linksN is bs ((j : Int) + 1) = 1))) := rfl
  obtain ⟨W0, hW0⟩ : ∃ W, (w.alloc (.cells #[.slice a1 xs.length c1, .slice a2 ys.length c2, .slice (some ⟨g2, o2, none⟩) is.length c3, .slice a4 bs.length c4] 35)) = W := ⟨_, rfl⟩
  have HA : Hid (AtC W0 w.heap.size 35 #[.slice a1 xs.length c1, .slice a2 ys.length c2, .slice (some ⟨g2, o2, none⟩) is.length c3, .slice a4 bs.length c4] ∧ Below w.heap.size w W0) := by
    rw [← hW0]
    exact ⟨AtC.new _ _ _, (Below.refl _ w).alloc (Nat.le_refl _) _⟩
  obtain ⟨kd, hkd⟩ : ∃ n, kindAt is ((j : Int) + 1) = n := ⟨_, rfl⟩
  obtain ⟨lk, hlk⟩ : ∃ n, lnkAt is j = n := ⟨_, rfl⟩
  obtain ⟨ln, hln⟩ : ∃ n, linksN is bs ((j : Int) + 1) = n := ⟨_, rfl⟩
  obtain ⟨sn, hsn⟩ : ∃ n, (ptrsAt is ((j : Int) + 1)).length = n := ⟨_, rfl⟩
  simp only [hkd, hlk, hln] at HIN
  rw [hkd] at y0
  rw [hlk] at y1
  rw [hsn] at y2
  simp only [hln] at CL
  have HW : Hid (∀ W, Below W0.heap.size W0 W → AtC W w.heap.size 35 #[.slice a1 xs.length c1, .slice a2 ys.length c2, .slice (some ⟨g2, o2, none⟩) is.length c3, .slice a4 bs.length c4] ∧ (W.cell? ⟨g2, o2 + j * 3, none⟩ = some (.int .i64 kd) ∧ W.cell? ⟨g2, o2 + j * 3 + 1, none⟩ = some (.int .i64 lk) ∧ W.cell? ⟨g2, o2 + j * 3 + 2, none⟩ = some (.slice sa sn sc)) ∧ Below w.heap.size w W) := fun W b => by
    have b0 := HA.out.2.trans (b.mono HA.out.2.size)
    exact ⟨HA.out.1.over b, ⟨(b0.cell (p := ⟨g2, o2 + j * 3, none⟩) hg2).trans y0, (b0.cell (p := ⟨g2, o2 + j * 3 + 1, none⟩) hg2).trans y1, (b0.cell (p := ⟨g2, o2 + j * 3 + 2, none⟩) hg2).trans y2⟩, b0⟩
  clear h hX y0 y1 y2 el hkd hlk hln hsn
  go_enter Tryz.func42, Tryz.ntmps42
  go_upto_region 1 with fail
  clear hW0
  go_cut [5, 6] from 7 to 43 (fun pv lv wx => ∃ xb : Nat, pv = .pointer (some ⟨xb, 0, none⟩) ∧ lv = .int .i64 (ln : Int) ∧ AtC wx xb 44 #[.int .i64 kd, .int .i64 lk, .slice sa sn sc] ∧ Below W0.heap.size W0 wx)
  case first =>
    refine wp_region_alt (by kernel_rfl) [0, 1, 2, 3, 4, 5, 6, 7, 8, 9, 11] [10] [([0, 1, 2, 3, 4, 5, 6, 7, 8, 9], [[11, 10], [10, 11]])] (fun i => match i with | 0 => .const [] (.pointer (some ⟨w.heap.size, 2, none⟩)) | 1 => .const [0] (.slice (some ⟨g2, o2, none⟩) is.length c3) | 2 => .const [] (.int .i64 ((j : Int) + 1)) | 3 => .const [2] (.int .i64 (j : Int)) | 4 => .const [1, 3] (.pointer (some ⟨g2, o2 + j * 3, none⟩)) | 5 => .const [4] (.agg #[.int .i64 kd, .int .i64 lk, .slice sa sn sc]) | 6 => .const [] (.agg #[.slice a1 xs.length c1, .slice a2 ys.length c2, .slice (some ⟨g2, o2, none⟩) is.length c3, .slice a4 bs.length c4]) | 7 => .const [] (.int .i64 ((j : Int) + 1)) | 8 => .const [6, 7] (.int .i64 (ln : Int)) | 9 => MkW 44 #[.int .i64 0, .int .i64 0, .slice none 0 0] | 11 => .const [8] (.int .i64 (ln : Int)) | _ => .triv) (fun x => ⟨#[Value.agg #[Value.slice a1 xs.length c1, Value.slice a2 ys.length c2, Value.slice (some { block := g2, off := o2 }) is.length c3, Value.slice a4 bs.length c4], Value.int IntKind.i64 (↑j + 1), Value.pointer (some { block := w.heap.size, off := 0 }), undef, Value.bool false, x 9, x 11, x 0, x 1, x 2, x 3, x 4, x 5, x 6, x 7, x 8, undef, undef, undef, undef, undef, undef, undef, undef, undef, undef, undef, undef, undef, undef, undef, undef, undef, undef, undef, undef, undef, undef, undef, undef, undef, undef, undef, undef], []⟩) (fun i => match i with | 0 => undef | 1 => undef | 2 => undef | 3 => undef | 4 => undef | 5 => undef | 6 => undef | 7 => undef | 8 => undef | 9 => undef | 11 => undef | _ => undef) rfl (makersOk2_of (by kernel_rfl) (by kernel_rfl)) (by kernel_rfl) (by kernel_rfl) (by kernel_rfl) rfl ?_ ?_ ?_
    · intro jo hj so x iw W hd hp K hK
      simp only [List.mem_cons, List.not_mem_nil, or_false] at hj
      rcases hj with rfl | rfl | rfl | rfl | rfl | rfl | rfl | rfl | rfl | rfl | rfl
      · refine wpOp_step (o := _) rfl fun K' hK' => ?_
        have HK : Hid (∀ v W', Below W.heap.size W W' → ((Mk.const [] (.pointer (some ⟨w.heap.size, 2, none⟩)) : Mk)).P W.heap.size W'.heap.size W' v (upd x 0 v) → K' ⟨#[Value.agg #[Value.slice a1 xs.length c1, Value.slice a2 ys.length c2, Value.slice (some { block := g2, off := o2 }) is.length c3, Value.slice a4 bs.length c4], Value.int IntKind.i64 (↑j + 1), Value.pointer (some { block := w.heap.size, off := 0 }), undef, Value.bool false, x 9, x 11, v, x 1, x 2, x 3, x 4, x 5, x 6, x 7, x 8, undef, undef, undef, undef, undef, undef, undef, undef, undef, undef, undef, undef, undef, undef, undef, undef, undef, undef, undef, undef, undef, undef, undef, undef, undef, undef, undef, undef], []⟩ W') := fun v W' h1 h2 => hK' _ _ (hK v W' h1 h2)
        clear hK hK' hp hd
        go_simp
        exact HK.out _ _ (Below.refl _ _) rfl
      · refine wpOp_step (o := _) rfl fun K' hK' => ?_
        have HK : Hid (∀ v W', Below W.heap.size W W' → ((Mk.const [0] (.slice (some ⟨g2, o2, none⟩) is.length c3) : Mk)).P W.heap.size W'.heap.size W' v (upd x 1 v) → K' ⟨#[Value.agg #[Value.slice a1 xs.length c1, Value.slice a2 ys.length c2, Value.slice (some { block := g2, off := o2 }) is.length c3, Value.slice a4 bs.length c4], Value.int IntKind.i64 (↑j + 1), Value.pointer (some { block := w.heap.size, off := 0 }), undef, Value.bool false, x 9, x 11, x 0, v, x 2, x 3, x 4, x 5, x 6, x 7, x 8, undef, undef, undef, undef, undef, undef, undef, undef, undef, undef, undef, undef, undef, undef, undef, undef, undef, undef, undef, undef, undef, undef, undef, undef, undef, undef, undef, undef], []⟩ W') := fun v W' h1 h2 => hK' _ _ (hK v W' h1 h2)
        have e0 : x 0 = .pointer (some ⟨w.heap.size, 2, none⟩) := hp.post 0 (hd 0 (show 0 ∈ [0] from by decide))
        have bw := HW.out W (of_drew hp.bel)
        have k0 : W.cell? ⟨w.heap.size, 2, none⟩ = some (.slice (some ⟨g2, o2, none⟩) is.length c3) := bw.1.cell 2
        clear bw
        clear hK hK' hp hd
        simp only [e0] at HK ⊢
        go_simp
        exact HK.out _ _ (Below.refl _ _) rfl
      · refine wpOp_step (o := _) rfl fun K' hK' => ?_
        have HK : Hid (∀ v W', Below W.heap.size W W' → ((Mk.const [] (.int .i64 ((j : Int) + 1)) : Mk)).P W.heap.size W'.heap.size W' v (upd x 2 v) → K' ⟨#[Value.agg #[Value.slice a1 xs.length c1, Value.slice a2 ys.length c2, Value.slice (some { block := g2, off := o2 }) is.length c3, Value.slice a4 bs.length c4], Value.int IntKind.i64 (↑j + 1), Value.pointer (some { block := w.heap.size, off := 0 }), undef, Value.bool false, x 9, x 11, x 0, x 1, v, x 3, x 4, x 5, x 6, x 7, x 8, undef, undef, undef, undef, undef, undef, undef, undef, undef, undef, undef, undef, undef, undef, undef, undef, undef, undef, undef, undef, undef, undef, undef, undef, undef, undef, undef, undef], []⟩ W') := fun v W' h1 h2 => hK' _ _ (hK v W' h1 h2)
        clear hK hK' hp hd
        go_simp
        exact HK.out _ _ (Below.refl _ _) rfl
      · refine wpOp_step (o := _) rfl fun K' hK' => ?_
        have HK : Hid (∀ v W', Below W.heap.size W W' → ((Mk.const [2] (.int .i64 (j : Int)) : Mk)).P W.heap.size W'.heap.size W' v (upd x 3 v) → K' ⟨#[Value.agg #[Value.slice a1 xs.length c1, Value.slice a2 ys.length c2, Value.slice (some { block := g2, off := o2 }) is.length c3, Value.slice a4 bs.length c4], Value.int IntKind.i64 (↑j + 1), Value.pointer (some { block := w.heap.size, off := 0 }), undef, Value.bool false, x 9, x 11, x 0, x 1, x 2, v, x 4, x 5, x 6, x 7, x 8, undef, undef, undef, undef, undef, undef, undef, undef, undef, undef, undef, undef, undef, undef, undef, undef, undef, undef, undef, undef, undef, undef, undef, undef, undef, undef, undef, undef], []⟩ W') := fun v W' h1 h2 => hK' _ _ (hK v W' h1 h2)
        have e2 : x 2 = .int .i64 ((j : Int) + 1) := hp.post 2 (hd 2 (show 2 ∈ [2] from by decide))
        clear hK hK' hp hd
        simp only [e2] at HK ⊢
        go_simp
        exact HK.out _ _ (Below.refl _ _) rfl
      · refine wpOp_step (o := _) rfl fun K' hK' => ?_
        have HK : Hid (∀ v W', Below W.heap.size W W' → ((Mk.const [1, 3] (.pointer (some ⟨g2, o2 + j * 3, none⟩)) : Mk)).P W.heap.size W'.heap.size W' v (upd x 4 v) → K' ⟨#[Value.agg #[Value.slice a1 xs.length c1, Value.slice a2 ys.length c2, Value.slice (some { block := g2, off := o2 }) is.length c3, Value.slice a4 bs.length c4], Value.int IntKind.i64 (↑j + 1), Value.pointer (some { block := w.heap.size, off := 0 }), undef, Value.bool false, x 9, x 11, x 0, x 1, x 2, x 3, v, x 5, x 6, x 7, x 8, undef, undef, undef, undef, undef, undef, undef, undef, undef, undef, undef, undef, undef, undef, undef, undef, undef, undef, undef, undef, undef, undef, undef, undef, undef, undef, undef, undef], []⟩ W') := fun v W' h1 h2 => hK' _ _ (hK v W' h1 h2)
        have e1 : x 1 = .slice (some ⟨g2, o2, none⟩) is.length c3 := hp.post 1 (hd 1 (show 1 ∈ [1, 3] from by decide))
        have e3 : x 3 = .int .i64 (j : Int) := hp.post 3 (hd 3 (show 3 ∈ [1, 3] from by decide))
        clear hK hK' hp hd
        simp only [e1, e3] at HK ⊢
        go_simp
        exact HK.out _ _ (Below.refl _ _) rfl
      · refine wpOp_step (o := _) rfl fun K' hK' => ?_
        have HK : Hid (∀ v W', Below W.heap.size W W' → ((Mk.const [4] (.agg #[.int .i64 kd, .int .i64 lk, .slice sa sn sc]) : Mk)).P W.heap.size W'.heap.size W' v (upd x 5 v) → K' ⟨#[Value.agg #[Value.slice a1 xs.length c1, Value.slice a2 ys.length c2, Value.slice (some { block := g2, off := o2 }) is.length c3, Value.slice a4 bs.length c4], Value.int IntKind.i64 (↑j + 1), Value.pointer (some { block := w.heap.size, off := 0 }), undef, Value.bool false, x 9, x 11, x 0, x 1, x 2, x 3, x 4, v, x 6, x 7, x 8, undef, undef, undef, undef, undef, undef, undef, undef, undef, undef, undef, undef, undef, undef, undef, undef, undef, undef, undef, undef, undef, undef, undef, undef, undef, undef, undef, undef], []⟩ W') := fun v W' h1 h2 => hK' _ _ (hK v W' h1 h2)
        have e4 : x 4 = .pointer (some ⟨g2, o2 + j * 3, none⟩) := hp.post 4 (hd 4 (show 4 ∈ [4] from by decide))
        have bw := HW.out W (of_drew hp.bel)
        obtain ⟨k0, k1, k2⟩ := bw.2.1
        clear bw
        clear hK hK' hp hd
        simp only [e4] at HK ⊢
        go_simp
        exact HK.out _ _ (Below.refl _ _) rfl
      · refine wpOp_step (o := _) rfl fun K' hK' => ?_
        have HK : Hid (∀ v W', Below W.heap.size W W' → ((Mk.const [] (.agg #[.slice a1 xs.length c1, .slice a2 ys.length c2, .slice (some ⟨g2, o2, none⟩) is.length c3, .slice a4 bs.length c4]) : Mk)).P W.heap.size W'.heap.size W' v (upd x 6 v) → K' ⟨#[Value.agg #[Value.slice a1 xs.length c1, Value.slice a2 ys.length c2, Value.slice (some { block := g2, off := o2 }) is.length c3, Value.slice a4 bs.length c4], Value.int IntKind.i64 (↑j + 1), Value.pointer (some { block := w.heap.size, off := 0 }), undef, Value.bool false, x 9, x 11, x 0, x 1, x 2, x 3, x 4, x 5, v, x 7, x 8, undef, undef, undef, undef, undef, undef, undef, undef, undef, undef, undef, undef, undef, undef, undef, undef, undef, undef, undef, undef, undef, undef, undef, undef, undef, undef, undef, undef], []⟩ W') := fun v W' h1 h2 => hK' _ _ (hK v W' h1 h2)
        have bw := HW.out W (of_drew hp.bel)
        have k0 : W.cell? ⟨w.heap.size, 0, none⟩ = some (.slice a1 xs.length c1) := bw.1.cell 0
        have k1 : W.cell? ⟨w.heap.size, 1, none⟩ = some (.slice a2 ys.length c2) := bw.1.cell 1
        have k2 : W.cell? ⟨w.heap.size, 2, none⟩ = some (.slice (some ⟨g2, o2, none⟩) is.length c3) := bw.1.cell 2
        have k3 : W.cell? ⟨w.heap.size, 3, none⟩ = some (.slice a4 bs.length c4) := bw.1.cell 3
        clear bw
        clear hK hK' hp hd
        go_simp
        exact HK.out _ _ (Below.refl _ _) rfl
      · refine wpOp_step (o := _) rfl fun K' hK' => ?_
        have HK : Hid (∀ v W', Below W.heap.size W W' → ((Mk.const [] (.int .i64 ((j : Int) + 1)) : Mk)).P W.heap.size W'.heap.size W' v (upd x 7 v) → K' ⟨#[Value.agg #[Value.slice a1 xs.length c1, Value.slice a2 ys.length c2, Value.slice (some { block := g2, off := o2 }) is.length c3, Value.slice a4 bs.length c4], Value.int IntKind.i64 (↑j + 1), Value.pointer (some { block := w.heap.size, off := 0 }), undef, Value.bool false, x 9, x 11, x 0, x 1, x 2, x 3, x 4, x 5, x 6, v, x 8, undef, undef, undef, undef, undef, undef, undef, undef, undef, undef, undef, undef, undef, undef, undef, undef, undef, undef, undef, undef, undef, undef, undef, undef, undef, undef, undef, undef], []⟩ W') := fun v W' h1 h2 => hK' _ _ (hK v W' h1 h2)
        clear hK hK' hp hd
        go_simp
        exact HK.out _ _ (Below.refl _ _) rfl
      · refine wpOp_step (o := _) rfl fun K' hK' => ?_
        have HK : Hid (∀ v W', Below W.heap.size W W' → ((Mk.const [6, 7] (.int .i64 (ln : Int)) : Mk)).P W.heap.size W'.heap.size W' v (upd x 8 v) → K' ⟨#[Value.agg #[Value.slice a1 xs.length c1, Value.slice a2 ys.length c2, Value.slice (some { block := g2, off := o2 }) is.length c3, Value.slice a4 bs.length c4], Value.int IntKind.i64 (↑j + 1), Value.pointer (some { block := w.heap.size, off := 0 }), undef, Value.bool false, x 9, x 11, x 0, x 1, x 2, x 3, x 4, x 5, x 6, x 7, v, undef, undef, undef, undef, undef, undef, undef, undef, undef, undef, undef, undef, undef, undef, undef, undef, undef, undef, undef, undef, undef, undef, undef, undef, undef, undef, undef, undef], []⟩ W') := fun v W' h1 h2 => hK' _ _ (hK v W' h1 h2)
        have e6 : x 6 = .agg #[.slice a1 xs.length c1, .slice a2 ys.length c2, .slice (some ⟨g2, o2, none⟩) is.length c3, .slice a4 bs.length c4] := hp.post 6 (hd 6 (show 6 ∈ [6, 7] from by decide))
        have e7 : x 7 = .int .i64 ((j : Int) + 1) := hp.post 7 (hd 7 (show 7 ∈ [6, 7] from by decide))
        have dr := (HW.out W (of_drew hp.bel)).2.2
        clear hK hK' hp hd
        simp only [e6, e7] at HK ⊢
        clear e6 e7
        go_simp
        refine (CL.out W dr).mono ?_
        rintro e w6 ⟨rfl, B6⟩
        go_simp
        exact HK.out _ _ B6 rfl
      · refine wpOp_step (o := _) rfl fun K' hK' => ?_
        have HK : Hid (∀ v W', Below W.heap.size W W' → (MkW 44 #[.int .i64 0, .int .i64 0, .slice none 0 0]).P W.heap.size W'.heap.size W' v (upd x 9 v) → K' ⟨#[Value.agg #[Value.slice a1 xs.length c1, Value.slice a2 ys.length c2, Value.slice (some { block := g2, off := o2 }) is.length c3, Value.slice a4 bs.length c4], Value.int IntKind.i64 (↑j + 1), Value.pointer (some { block := w.heap.size, off := 0 }), undef, Value.bool false, v, x 11, x 0, x 1, x 2, x 3, x 4, x 5, x 6, x 7, x 8, undef, undef, undef, undef, undef, undef, undef, undef, undef, undef, undef, undef, undef, undef, undef, undef, undef, undef, undef, undef, undef, undef, undef, undef, undef, undef, undef, undef], []⟩ W') := fun v W' h1 h2 => hK' _ _ (hK v W' h1 h2)
        clear hK hK' hp hd
        go_simp
        exact HK.out _ _ ((Below.refl _ W).alloc (Nat.le_refl _) _) ⟨rfl, by simp, AtC.new W 44 _⟩
      · refine wpOp_step (o := _) rfl fun K' hK' => ?_
        have HK : Hid (∀ v W', Below W.heap.size W W' → ((Mk.const [8] (.int .i64 (ln : Int)) : Mk)).P W.heap.size W'.heap.size W' v (upd x 11 v) → K' ⟨#[Value.agg #[Value.slice a1 xs.length c1, Value.slice a2 ys.length c2, Value.slice (some { block := g2, off := o2 }) is.length c3, Value.slice a4 bs.length c4], Value.int IntKind.i64 (↑j + 1), Value.pointer (some { block := w.heap.size, off := 0 }), undef, Value.bool false, x 9, v, x 0, x 1, x 2, x 3, x 4, x 5, x 6, x 7, x 8, undef, undef, undef, undef, undef, undef, undef, undef, undef, undef, undef, undef, undef, undef, undef, undef, undef, undef, undef, undef, undef, undef, undef, undef, undef, undef, undef, undef], []⟩ W') := fun v W' h1 h2 => hK' _ _ (hK v W' h1 h2)
        have e8 : x 8 = .int .i64 (ln : Int) := hp.post 8 (hd 8 (show 8 ∈ [8] from by decide))
        clear hK hK' hp hd
        simp only [e8] at HK ⊢
        go_simp
        exact HK.out _ _ (Below.refl _ _) rfl
    · intro x iw W hp
      have e5 : x 5 = .agg #[.int .i64 kd, .int .i64 lk, .slice sa sn sc] := hp.post 5 (by decide)
      have e8 : x 8 = .int .i64 (ln : Int) := hp.post 8 (by decide)
      have e11 : x 11 = .int .i64 (ln : Int) := hp.post 11 (by decide)
      obtain ⟨e9, z9, A9⟩ := hp.post 9 (by decide)
      have l9 := hp.lo 9 (by decide)
      have bel := of_drew hp.bel
      have hb9 : W0.heap.size ≤ (iw 9).1 := l9.1
      have y0 : W.cell? ⟨(iw 9).1, 0, none⟩ = some (.int .i64 0) := A9.cell 0
      have y1 : W.cell? ⟨(iw 9).1, 1, none⟩ = some (.int .i64 0) := A9.cell 1
      have y2 : W.cell? ⟨(iw 9).1, 2, none⟩ = some (.slice none 0 0) := A9.cell 2
      have f0 := A9.frozen 0
      have f1 := A9.frozen 1
      have f2 := A9.frozen 2
      have HFI : Hid (AtC W (iw 9).1 44 #[.int .i64 0, .int .i64 0, .slice none 0 0] ∧ Below W0.heap.size W0 W ∧ W0.heap.size ≤ (iw 9).1) := ⟨A9, bel, hb9⟩
      clear hp A9 bel l9 z9 hb9
      simp only [e5, e8, e9, e11] at *
      generalize (iw 9).1 = bw at *
      go_wp2_with fail
      try rw [List.filterMap_nil]
      try go_wp2_with fail
      go_meet
      exact ⟨bw, rfl, rfl, ((HFI.out.1.set 0 _).set 1 _).set 2 _, ((HFI.out.2.1.setCell (p := ⟨bw, 0, none⟩) HFI.out.2.2 _).setCell (p := ⟨bw, 1, none⟩) HFI.out.2.2 _).setCell (p := ⟨bw, 2, none⟩) HFI.out.2.2 _⟩
    · intro qa hqa l hl x iw W hp
      simp only [List.mem_cons, List.not_mem_nil, or_false] at hqa
      subst hqa
      simp only [List.mem_cons, List.not_mem_nil, or_false] at hl
      have e5 : x 5 = .agg #[.int .i64 kd, .int .i64 lk, .slice sa sn sc] := hp.post 5 (by decide)
      have e8 : x 8 = .int .i64 (ln : Int) := hp.post 8 (by decide)
      obtain ⟨e9, z9, A9⟩ := hp.post 9 (by decide)
      have l9 := hp.lo 9 (by decide)
      have bel := of_drew hp.bel
      have hb9 : W0.heap.size ≤ (iw 9).1 := l9.1
      have y0 : W.cell? ⟨(iw 9).1, 0, none⟩ = some (.int .i64 0) := A9.cell 0
      have y1 : W.cell? ⟨(iw 9).1, 1, none⟩ = some (.int .i64 0) := A9.cell 1
      have y2 : W.cell? ⟨(iw 9).1, 2, none⟩ = some (.slice none 0 0) := A9.cell 2
      have f0 := A9.frozen 0
      have f1 := A9.frozen 1
      have f2 := A9.frozen 2
      have HFI : Hid (AtC W (iw 9).1 44 #[.int .i64 0, .int .i64 0, .slice none 0 0] ∧ Below W0.heap.size W0 W ∧ W0.heap.size ≤ (iw 9).1) := ⟨A9, bel, hb9⟩
      clear hp A9 bel l9 z9 hb9
      simp only [e5, e8, e9] at *
      generalize (iw 9).1 = bw at *
      rcases hl with rfl | rfl
      · go_wp2_with fail
        try rw [List.filterMap_nil]
        try go_wp2_with fail
        go_meet
        exact ⟨bw, rfl, rfl, ((HFI.out.1.set 0 _).set 1 _).set 2 _, ((HFI.out.2.1.setCell (p := ⟨bw, 0, none⟩) HFI.out.2.2 _).setCell (p := ⟨bw, 1, none⟩) HFI.out.2.2 _).setCell (p := ⟨bw, 2, none⟩) HFI.out.2.2 _⟩
      · go_wp2_with fail
        try rw [List.filterMap_nil]
        try go_wp2_with fail
        go_meet
        exact ⟨bw, rfl, rfl, ((HFI.out.1.set 0 _).set 1 _).set 2 _, ((HFI.out.2.1.setCell (p := ⟨bw, 0, none⟩) HFI.out.2.2 _).setCell (p := ⟨bw, 1, none⟩) HFI.out.2.2 _).setCell (p := ⟨bw, 2, none⟩) HFI.out.2.2 _⟩
  case rest =>
    obtain ⟨xb, rfl, rfl, hAx, hB2⟩ := hcut
    have x0 : wc.cell? ⟨xb, 0, none⟩ = some (.int .i64 kd) := hAx.cell 0
    have x1 : wc.cell? ⟨xb, 1, none⟩ = some (.int .i64 lk) := hAx.cell 1
    have HX2 := hide (And.intro hAx (HW.out _ hB2))
    clear hAx hB2
    by_cases hj0 : j = 0
    · have HF : Hid (inoI is bs j = ((lk == 1) && ((ln : Int) == 0))) := hide (by
        have e2 : decide (ln = 0) = ((ln : Int) == 0) := by rw [show ((ln : Int) == 0) = decide ((ln : Int) = 0) from rfl]; exact decide_eq_decide.2 (by omega)
        rw [HIN.out, if_pos hj0, e2]
        rfl)
      have jb : ((j : Int) + 1 == 1) = true := by simp [hj0]
      clear hj0
      by_cases hl1 : lk = 1
      · subst hl1
        go_wp2
        go_ret
        exact ⟨by rw [HF.out]; rfl, HX2.out.2.2.2⟩
      · have hlb : (lk == 1) = false := by simp [hl1]
        clear hl1
        go_wp2
        go_ret
        exact ⟨by rw [HF.out, hlb]; rfl, HX2.out.2.2.2⟩
    have jb : ((j : Int) + 1 == 1) = false := by simp; omega
    have ji : ¬ ((j : Int) + 1 = 1) := by omega
    have z0 : wc.cell? ⟨w.heap.size, 0, none⟩ = some (.slice a1 xs.length c1) := HX2.out.2.1.cell 0
    have z1 : wc.cell? ⟨w.heap.size, 1, none⟩ = some (.slice a2 ys.length c2) := HX2.out.2.1.cell 1
    have z2 : wc.cell? ⟨w.heap.size, 2, none⟩ = some (.slice (some ⟨g2, o2, none⟩) is.length c3) := HX2.out.2.1.cell 2
    have z3 : wc.cell? ⟨w.heap.size, 3, none⟩ = some (.slice a4 bs.length c4) := HX2.out.2.1.cell 3
    have CR1 := hide (CR.out wc HX2.out.2.2.2)
    have HF : Hid (inoI is bs j = ((reachL is bs).contains ((j : Int) + 1) && (lk == (ln : Int)) && ((kd != 2) || ((ln : Int) == 1)))) := hide (by
      have e2 : decide (ln = 1) = ((ln : Int) == 1) := by rw [show ((ln : Int) == 1) = decide ((ln : Int) = 1) from rfl]; exact decide_eq_decide.2 (by omega)
      have e3 : decide (¬ kd = 2) = (kd != 2) := by by_cases e : kd = 2 <;> simp [e]
      rw [HIN.out, if_neg hj0, e2, e3]
      rfl)
    clear hj0
    go_wp2_with fail
    refine CR1.out.mono ?_
    rintro e w3 ⟨rv, rfl, R3, B3⟩
    have HB3 : Hid (Below w.heap.size w w3) := HX2.out.2.2.2.trans (B3.mono HX2.out.2.2.2.size)
    have CH := hide (hasL_any rv (reachL is bs) ((j : Int) + 1) w3 R3.rints (by have := HR8.out; omega))
    obtain ⟨ra, rc, rfl, -⟩ := R3.form
    have v0 : w3.cell? ⟨xb, 0, none⟩ = some (.int .i64 kd) := (HX2.out.1.over B3).cell 0
    have v1 : w3.cell? ⟨xb, 1, none⟩ = some (.int .i64 lk) := (HX2.out.1.over B3).cell 1
    obtain ⟨r, hr⟩ : ∃ b, (reachL is bs).contains ((j : Int) + 1) = b := ⟨_, rfl⟩
    rw [hr] at CH HF
    obtain ⟨m, hm⟩ : ∃ m, (ic (reachL is bs)).length = m := ⟨_, rfl⟩
    rw [hm] at CH ⊢
    clear R3 B3 CR CR1 z0 z1 z2 z3 x0 x1 hr hm HIN
    go_wp2_with fail
    refine CH.out.mono ?_
    rintro e w4 ⟨rfl, rfl⟩
    cases r with
    | false =>
      go_wp2
      go_ret
      exact ⟨by rw [HF.out]; rfl, HB3.out⟩
    | true =>
      cases hll : (lk == (ln : Int)) with
      | false =>
        have hll2 : ¬ lk = (ln : Int) := by simpa using hll
        rw [hll] at HF
        go_wp2
        go_ret
        exact ⟨by rw [HF.out]; rfl, HB3.out⟩
      | true =>
        have hll2 : lk = (ln : Int) := by simpa using hll
        rw [hll] at HF
        clear hll
        cases hk2 : (kd != 2) with
        | true =>
          have hk3 : ¬ kd = 2 := by simpa using hk2
          rw [hk2] at HF
          subst hll2
          go_wp2
          go_ret
          exact ⟨by rw [HF.out]; rfl, HB3.out⟩
        | false =>
          have hk3 : kd = 2 := by simpa using hk2
          rw [hk2] at HF
          clear hk2
          subst hk3
          subst hll2
          go_wp2
          go_ret
          exact ⟨by rw [HF.out]; rfl, HB3.out⟩
set_option maxRecDepth 100000 in
set_option maxHeartbeats 800000 in
theorem c41_any (j : Nat) (a1 a2 a3 a4 : Option Addr) (c1 c2 c3 c4 : Nat) (xs ys : List Bool) (is : List Ino) (bs : List Blk) (dk : Nat) (w : World) (h : DR w (.slice a1 xs.length c1) (.slice a2 ys.length c2) (.slice a3 is.length c3) (.slice a4 bs.length c4) xs ys is bs) (hX : RX xs ys is bs) (hd : AtC w dk 35 #[.slice a1 xs.length c1, .slice a2 ys.length c2, .slice a3 is.length c3, .slice a4 bs.length c4]) (hj8 : j < 8) :
    Calls Tryz.prog 41 #[.int .i64 ((j : Int) + 1), .pointer (some ⟨dk, 0, none⟩)] w fun e w' => e = .returned (.bool (!(inoI is bs j))) ∧ Below w.heap.size w w' := by
  have CT := hide (ex42_any j (.slice a1 xs.length c1) (.slice a2 ys.length c2) (.slice a3 is.length c3) (.slice a4 bs.length c4) xs ys is bs w h hX hj8)
  have z0 : w.cell? ⟨dk, 0, none⟩ = some (.slice a1 xs.length c1) := hd.cell 0
  have z1 : w.cell? ⟨dk, 1, none⟩ = some (.slice a2 ys.length c2) := hd.cell 1
  have z2 : w.cell? ⟨dk, 2, none⟩ = some (.slice a3 is.length c3) := hd.cell 2
  have z3 : w.cell? ⟨dk, 3, none⟩ = some (.slice a4 bs.length c4) := hd.cell 3
  obtain ⟨r, hr⟩ : ∃ r, inoI is bs j = r := ⟨_, rfl⟩
  rw [hr] at CT ⊢
  clear h hX hd hr
  go_enter Tryz.func41, Tryz.ntmps41
  go_wp2_with fail
  refine CT.out.mono ?_
  rintro e w1 ⟨rfl, B1⟩
  have HB1 := hide B1
  clear B1
  go_wp2
  go_ret
  exact ⟨rfl, HB1.out⟩
end Go.Proofs.YtljooldjcefkoaaGreat
/- What is exact, told in two ways. No Go function is spoken of. -/
namespace Go.Proofs.YtljooldjcefkoaaGreat
open Go.RowKit Kit
/-- How many inodes of some kind are not exact. -/
noncomputable def exN (is : List Ino) (bs : List Blk) : Nat := (kndL is).countP fun i => !(inoI is bs (i - 1).toNat)
theorem reach_root {is : List Ino} {bs : List Blk} (h : RD is bs) : (reachL is bs).contains 1 = true := by
  rw [List.contains_iff_mem]
  exact (mem_rchL (edge_in h)).2 (Rch.root _)
theorem reach_kind {is : List Ino} {bs : List Blk} (h : RD is bs) {i : Int} (hi : (reachL is bs).contains i = true) : i = 1 ∨ ¬ kindAt is i = 0 := by
  rw [List.contains_iff_mem] at hi
  have hr : Rch (edge is bs) i := (mem_rchL (edge_in h)).1 hi
  exact hr (fun i => i = 1 ∨ ¬ kindAt is i = 0) (.inl rfl) (fun _ k _ e => by obtain ⟨_, _, _, hk⟩ := e; exact .inr hk)
theorem eq_of_getD {a : List Bool} {n : Nat} {f : Nat → Bool} (ha : a.length = n) : a = (List.range n).map f ↔ ∀ j, j < n → a.getD j false = f j := by
  constructor
  · intro e j hj
    rw [e, getD_at false (by simpa using hj)]
    simp
  · intro h
    apply List.ext_getElem (by rw [ha]; simp)
    intro j h1 h2
    have := h j (by rw [← ha]; exact h1)
    rw [getD_at false h1] at this
    rw [this]
    simp
theorem inoS_iff {ys : List Bool} {is : List Ino} {bs : List Blk} (j : Nat) : inoS ys is bs j = true ↔ (((reachL is bs).contains ((j : Int) + 1) = true ∨ kindAt is ((j : Int) + 1) = 0) ∧ ys.getD j false = (reachL is bs).contains ((j : Int) + 1) ∧ (j = 0 → lnkAt is j = 1 ∧ linksN is bs ((j : Int) + 1) = 0) ∧ (¬ j = 0 → ((reachL is bs).contains ((j : Int) + 1) = true → lnkAt is j = (linksN is bs ((j : Int) + 1) : Int)) ∧ (kindAt is ((j : Int) + 1) = 2 → linksN is bs ((j : Int) + 1) = 1))) := by
  unfold inoS
  exact decide_eq_true_iff
theorem inoI_iff {is : List Ino} {bs : List Blk} (j : Nat) : inoI is bs j = true ↔ (j = 0 → lnkAt is j = 1 ∧ linksN is bs ((j : Int) + 1) = 0) ∧ (¬ j = 0 → (reachL is bs).contains ((j : Int) + 1) = true ∧ lnkAt is j = (linksN is bs ((j : Int) + 1) : Int) ∧ (kindAt is ((j : Int) + 1) = 2 → linksN is bs ((j : Int) + 1) = 1)) := by
  unfold inoI
  by_cases e : j = 0
  · rw [if_pos e]
    simp only [Bool.and_eq_true, decide_eq_true_eq]
    exact ⟨fun h => ⟨fun _ => h, fun h' => absurd e h'⟩, fun h => h.1 e⟩
  · rw [if_neg e]
    simp only [Bool.and_eq_true, Bool.or_eq_true, decide_eq_true_eq]
    refine ⟨fun h => ⟨fun h' => absurd h' e, fun _ => ⟨h.1.1, h.1.2, fun hk => h.2.resolve_left (fun hn => hn hk)⟩⟩, fun h => ?_⟩
    obtain ⟨h1, h2, h3⟩ := h.2 e
    refine ⟨⟨h1, h2⟩, ?_⟩
    by_cases hk : kindAt is ((j : Int) + 1) = 2
    · exact .inr (h3 hk)
    · exact .inl hk
theorem exact_two {xs ys : List Bool} {is : List Ino} {bs : List Blk} (hX : RX xs ys is bs) (hk1 : kindAt is 1 = 2) : exactS xs ys is bs = (decide (xs = fB is bs) && decide (ys = fI is bs) && decide (exN is bs = 0)) := by
  have hB : (List.range 16).all (bitS xs is bs) = decide (xs = fB is bs) := by
    rw [Bool.eq_iff_iff, List.all_eq_true, decide_eq_true_eq]
    unfold fB
    rw [eq_of_getD hX.bx]
    exact ⟨fun h p hp => of_decide_eq_true (h p (List.mem_range.2 hp)), fun h p hp => decide_eq_true (h p (List.mem_range.1 hp))⟩
  have hI : (List.range 8).all (inoS ys is bs) = (decide (ys = fI is bs) && decide (exN is bs = 0)) := by
    rw [Bool.eq_iff_iff, List.all_eq_true, Bool.and_eq_true, decide_eq_true_eq, decide_eq_true_eq]
    have hn : exN is bs = 0 ↔ ∀ j : Nat, j < 8 → ¬ kindAt is ((j : Int) + 1) = 0 → inoI is bs j = true := by
      unfold exN
      rw [List.countP_eq_zero]
      constructor
      · intro h j hj hk
        have := h ((j : Int) + 1) (mem_kndL.2 ⟨by omega, hk⟩)
        rw [show ((j : Int) + 1 - 1).toNat = j by omega] at this
        simpa using this
      · intro h i hi
        obtain ⟨h1, h2⟩ := mem_kndL.1 hi
        have := h (i - 1).toNat (by omega) (by rw [show (((i - 1).toNat : Nat) : Int) + 1 = i by omega]; exact h2)
        rw [this]
        decide
    rw [hn]
    unfold fI
    rw [eq_of_getD hX.y8]
    constructor
    · intro h
      refine ⟨fun j hj => ((inoS_iff j).1 (h j (List.mem_range.2 hj))).2.1, fun j hj hk => ?_⟩
      obtain ⟨h1, h2, h3, h4⟩ := (inoS_iff j).1 (h j (List.mem_range.2 hj))
      have hr := h1.resolve_right hk
      exact (inoI_iff j).2 ⟨h3, fun e => ⟨hr, (h4 e).1 hr, (h4 e).2⟩⟩
    · rintro ⟨h1, h2⟩ j hj
      have hj := List.mem_range.1 hj
      rw [inoS_iff]
      by_cases hk : kindAt is ((j : Int) + 1) = 0
      · have hj0 : ¬ j = 0 := fun e => by
          subst e
          rw [show ((0 : Nat) : Int) + 1 = 1 from rfl, hk1] at hk
          cases hk
        have hr : ¬ (reachL is bs).contains ((j : Int) + 1) = true := fun hr => by
          rcases reach_kind hX.r hr with e | e
          · omega
          · exact e hk
        refine ⟨.inr hk, h1 j hj, fun e => absurd e hj0, fun _ => ⟨fun e => absurd e hr, fun e => ?_⟩⟩
        rw [hk] at e
        cases e
      · obtain ⟨h3, h4⟩ := (inoI_iff j).1 (h2 j hj hk)
        have hr : (reachL is bs).contains ((j : Int) + 1) = true := by
          by_cases e : j = 0
          · subst e
            exact reach_root hX.r
          · exact (h4 e).1
        exact ⟨.inl hr, h1 j hj, h3, fun e => ⟨fun _ => (h4 e).2.1, (h4 e).2.2⟩⟩
  unfold exactS
  rw [hB, hI]
  cases decide (xs = fB is bs) <;> cases decide (ys = fI is bs) <;> cases decide (exN is bs = 0) <;> rfl
theorem exN_le (is : List Ino) (bs : List Blk) : exN is bs ≤ 8 := Nat.le_trans List.countP_le_length (kndL_len is)
end Go.Proofs.YtljooldjcefkoaaGreat
