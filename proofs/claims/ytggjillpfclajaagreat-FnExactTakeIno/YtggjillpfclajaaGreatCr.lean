
/- A copy of bits: spec.l05Copy by its contract. -/
import Derived.Test.YtggjillpfclajaaGreatCq
namespace Go.Proofs.YtggjillpfclajaaGreat.Kit
open Go.RowKit
/-- A new list without any. -/
def MkE (T : TypeId) : Mk := .val [] (fun lo hi w v => v = .slice (some ⟨lo, 0, none⟩) 0 0 ∧ hi = lo + 1 ∧ AtC w lo T #[]) (fun _ _ _ _ _ h hb => ⟨h.1, h.2.1, h.2.2.over hb⟩)
/-- A copy of flags, appended to a new list without any (the k-th operation's). -/
def MkC (k j : Nat) (xs : List Bool) (B : Nat) : Mk := .val1 [k, j] k (by simp) (fun lo hi w u v => ∃ a c, v = .slice a xs.length c ∧ ROwns w B 4 v (fc xs) ∧ ∀ i, v.ownBlock = some i → (lo ≤ i ∧ i < hi) ∨ u.ownBlock = some i)
  (fun _ _ _ _ _ _ h hb => by obtain ⟨a, c, h1, h2, h3⟩ := h; exact ⟨a, c, h1, h2.below hb (Nat.le_refl _), h3⟩)
theorem AtC.empty {w : World} {g : Nat} {T : TypeId} (h : AtC w g T #[]) (B : Nat) (hB : B ≤ g) (m : Nat) : w.ownsRow B T m (.slice (some ⟨g, 0, none⟩) 0 0) 0 [] :=
  ⟨by simp, .inr ⟨g, 0, #[], rfl, hB, h, Nat.le_refl _, Nat.zero_le _, by simp, by simp⟩⟩
end Go.Proofs.YtggjillpfclajaaGreat.Kit
namespace Go.Proofs.YtggjillpfclajaaGreat
open Go.RowKit Kit
set_option maxRecDepth 100000 in
set_option maxHeartbeats 1600000 in
theorem copyB_any (u v : Value) (xs ys : List Bool) (w : World) (hu : RFl w u xs) (hv : RFl w v ys) (hx : xs.length ≤ 1048576) (hy : ys.length ≤ 1048576) :
    Calls Tryz.prog 78 #[.agg #[u, v]] w fun e w' => ∃ u' v', e = .returned (.agg #[u', v']) ∧ Two w' w.heap.size u' v' xs ys ∧ Below w.heap.size w w' := by
  have HU := hide hu
  have HV := hide hv
  obtain ⟨a1, c1, rfl, -⟩ := hu
  obtain ⟨a2, c2, rfl, -⟩ := hv
  have HX : Hid (xs.length ≤ 100000000000) := Nat.le_trans hx (by decide)
  have HY : Hid (ys.length ≤ 100000000000) := Nat.le_trans hy (by decide)
  clear hx hy
  go_enter Tryz.func78, Tryz.ntmps78
  go_wp2_with fail
  have HC : Hid (∀ W, Below ((w.alloc (.cells #[.slice a1 xs.length c1, .slice a2 ys.length c2] 33)).alloc (.cells #[.slice none 0 0, .slice none 0 0] 33)).drew.heap.size ((w.alloc (.cells #[.slice a1 xs.length c1, .slice a2 ys.length c2] 33)).alloc (.cells #[.slice none 0 0, .slice none 0 0] 33)).drew W → AtC W w.heap.size 33 #[.slice a1 xs.length c1, .slice a2 ys.length c2] ∧ AtC W (w.heap.size + 1) 33 #[.slice none 0 0, .slice none 0 0] ∧ Below w.heap.size w W ∧ w.heap.size + 1 + 1 ≤ W.heap.size) := fun W b => by
    have b2 := of_drew b
    have k1 := (AtC.new (w.alloc (.cells #[.slice a1 xs.length c1, .slice a2 ys.length c2] 33)) 33 #[.slice none 0 0, .slice none 0 0]).over b2
    have sz := b2.size
    simp at k1 sz
    exact ⟨((AtC.new w 33 _).alloc _).over b2, k1, (((Below.refl _ w).alloc (Nat.le_refl _) _).alloc (by simp) _).trans (b2.mono (by simp; omega)), sz⟩
  refine wp_region_mks (by kernel_rfl) [0, 1, 2, 3, 4, 5, 6, 7] [8, 9] [3, 4, 5, 6, 7, 8, 9, 10] (fun i => match i with | 0 => MkE 4 | 1 => .const [] (.pointer (some ⟨w.heap.size, 0, none⟩)) | 2 => .const [1] (.slice a1 xs.length c1) | 3 => MkC 0 2 xs (w.heap.size + 1 + 1) | 4 => MkE 4 | 5 => .const [] (.pointer (some ⟨w.heap.size, 1, none⟩)) | 6 => .const [5] (.slice a2 ys.length c2) | 7 => MkC 4 6 ys (w.heap.size + 1 + 1) | _ => .triv) (by kernel_rfl) (by kernel_rfl) (by kernel_rfl) (by kernel_rfl) rfl ?_ ?_
  · intro j hj s x iv W hd hp K hK
    simp only [List.mem_cons, List.not_mem_nil, or_false] at hj
    rcases hj with rfl | rfl | rfl | rfl | rfl | rfl | rfl | rfl
    · refine wpOp_step (o := _) rfl fun K' hK' => ?_
      have HK := hide (fun v W' h1 h2 => hK' _ _ (hK v W' h1 h2))
      clear hK hK' hp hd
      simp only [actOf]
      go_simp
      have F := HK.out (.slice (some ⟨W.heap.size, 0, none⟩) 0 0) (W.alloc (.cells #[] 4)) ((Below.refl _ W).alloc (Nat.le_refl _) _) ⟨rfl, by simp, AtC.new W 4 _⟩
      simp [go_sem, actOf, upd] at F
      exact F
    · refine wpOp_step (o := _) rfl fun K' hK' => ?_
      have HK := hide (fun v W' h1 h2 => hK' _ _ (hK v W' h1 h2))
      clear hK hK' hp hd
      simp only [actOf]
      go_simp
      have F := HK.out (.pointer (some ⟨w.heap.size, 0, none⟩)) W (Below.refl _ _) rfl
      simp [go_sem, actOf, upd] at F
      exact F
    · refine wpOp_step (o := _) rfl fun K' hK' => ?_
      have HK := hide (fun v W' h1 h2 => hK' _ _ (hK v W' h1 h2))
      have e1 : x 1 = .pointer (some ⟨w.heap.size, 0, none⟩) := hp.post 1 (hd 1 (show 1 ∈ [1] from by decide))
      have q0 : W.cell? ⟨w.heap.size, 0, none⟩ = some (.slice a1 xs.length c1) := (HC.out W hp.bel).1.cell 0
      clear hK hK' hp hd
      simp only [actOf]
      go_simp
      have F := HK.out (.slice a1 xs.length c1) W (Below.refl _ _) rfl
      simp [go_sem, actOf, upd, e1] at F
      exact F
    · refine wpOp_step (o := _) rfl fun K' hK' => ?_
      have HK := hide (fun v W' h1 h2 => hK' _ _ (hK v W' h1 h2))
      have e0 : x 0 = .slice (some ⟨(iv 0).1, 0, none⟩) 0 0 ∧ (iv 0).2 = (iv 0).1 + 1 ∧ AtC W (iv 0).1 4 #[] := hp.post 0 (hd 0 (show 0 ∈ [0, 2] from by decide))
      have e2 : x 2 = .slice a1 xs.length c1 := hp.post 2 (hd 2 (show 2 ∈ [0, 2] from by decide))
      have bl := HC.out W hp.bel
      have l0 := (hp.lo 0 (hd 0 (show 0 ∈ [0, 2] from by decide))).1
      simp [World.drew] at l0
      clear hK hK' hp hd
      obtain ⟨f0, -, A0⟩ := e0
      simp only [actOf, Act.put, List.setIfInBounds_toArray, List.set_cons_succ, List.set_cons_zero, Nat.reduceAdd, List.getElem_toArray, List.getElem_cons_succ, List.getElem_cons_zero]
      refine step_append_copy0 (a := ⟨_, []⟩) W rfl (.tmp 3) (.tmp 5) 22 rfl (w.heap.size + 1 + 1) 4 Tryz.underlying22 _ 1 1 Tryz.i4 rfl (by decide) (by decide) (some ⟨(iv 0).1, 0, none⟩) (by exact f0) (A0.empty _ (by omega) 1) bl.2.2.2 (.slice a1 xs.length c1) (by exact e2) xs.length (fc xs) (HU.out.below bl.2.2.1 (Nat.le_refl _)).rc (by rw [fc_length, Nat.mul_one]) (fc_one xs) HX.out ?_
      intro v' w' R1 R2 R3
      have O1 : ROwns w' (w.heap.size + 1 + 1) 4 v' (fc xs) := by unfold ROwns; rw [fc_length]; exact R1
      obtain ⟨a3, c3, e3⟩ := O1.rfl.form
      have F := HK.out v' w' R2 ⟨a3, c3, e3, O1, fun i hi => R3.elim (fun e => .inr (by rw [upd_ne _ _ _ _ (by decide), f0]; rw [hi] at e; exact e.symm)) (fun e => .inl ⟨by rw [hi] at e; cases e; exact Nat.le_refl _, (O1.lt i hi).2⟩)⟩
      simp [go_sem, actOf, upd] at F
      simp only [Act.put, List.setIfInBounds_toArray, List.set_cons_succ, List.set_cons_zero]
      exact F
    · refine wpOp_step (o := _) rfl fun K' hK' => ?_
      have HK := hide (fun v W' h1 h2 => hK' _ _ (hK v W' h1 h2))
      clear hK hK' hp hd
      simp only [actOf]
      go_simp
      have F := HK.out (.slice (some ⟨W.heap.size, 0, none⟩) 0 0) (W.alloc (.cells #[] 4)) ((Below.refl _ W).alloc (Nat.le_refl _) _) ⟨rfl, by simp, AtC.new W 4 _⟩
      simp [go_sem, actOf, upd] at F
      exact F
    · refine wpOp_step (o := _) rfl fun K' hK' => ?_
      have HK := hide (fun v W' h1 h2 => hK' _ _ (hK v W' h1 h2))
      clear hK hK' hp hd
      simp only [actOf]
      go_simp
      have F := HK.out (.pointer (some ⟨w.heap.size, 1, none⟩)) W (Below.refl _ _) rfl
      simp [go_sem, actOf, upd] at F
      exact F
    · refine wpOp_step (o := _) rfl fun K' hK' => ?_
      have HK := hide (fun v W' h1 h2 => hK' _ _ (hK v W' h1 h2))
      have e5 : x 5 = .pointer (some ⟨w.heap.size, 1, none⟩) := hp.post 5 (hd 5 (show 5 ∈ [5] from by decide))
      have q0 : W.cell? ⟨w.heap.size, 1, none⟩ = some (.slice a2 ys.length c2) := (HC.out W hp.bel).1.cell 1
      clear hK hK' hp hd
      simp only [actOf]
      go_simp
      have F := HK.out (.slice a2 ys.length c2) W (Below.refl _ _) rfl
      simp [go_sem, actOf, upd, e5] at F
      exact F
    · refine wpOp_step (o := _) rfl fun K' hK' => ?_
      have HK := hide (fun v W' h1 h2 => hK' _ _ (hK v W' h1 h2))
      have e4 : x 4 = .slice (some ⟨(iv 4).1, 0, none⟩) 0 0 ∧ (iv 4).2 = (iv 4).1 + 1 ∧ AtC W (iv 4).1 4 #[] := hp.post 4 (hd 4 (show 4 ∈ [4, 6] from by decide))
      have e6 : x 6 = .slice a2 ys.length c2 := hp.post 6 (hd 6 (show 6 ∈ [4, 6] from by decide))
      have bl := HC.out W hp.bel
      have l0 := (hp.lo 4 (hd 4 (show 4 ∈ [4, 6] from by decide))).1
      simp [World.drew] at l0
      clear hK hK' hp hd
      obtain ⟨f0, -, A0⟩ := e4
      simp only [actOf, Act.put, List.setIfInBounds_toArray, List.set_cons_succ, List.set_cons_zero, Nat.reduceAdd, List.getElem_toArray, List.getElem_cons_succ, List.getElem_cons_zero]
      refine step_append_copy0 (a := ⟨_, []⟩) W rfl (.tmp 7) (.tmp 9) 22 rfl (w.heap.size + 1 + 1) 4 Tryz.underlying22 _ 1 1 Tryz.i4 rfl (by decide) (by decide) (some ⟨(iv 4).1, 0, none⟩) (by exact f0) (A0.empty _ (by omega) 1) bl.2.2.2 (.slice a2 ys.length c2) (by exact e6) ys.length (fc ys) (HV.out.below bl.2.2.1 (Nat.le_refl _)).rc (by rw [fc_length, Nat.mul_one]) (fc_one ys) HY.out ?_
      intro v' w' R1 R2 R3
      have O1 : ROwns w' (w.heap.size + 1 + 1) 4 v' (fc ys) := by unfold ROwns; rw [fc_length]; exact R1
      obtain ⟨a3, c3, e3⟩ := O1.rfl.form
      have F := HK.out v' w' R2 ⟨a3, c3, e3, O1, fun i hi => R3.elim (fun e => .inr (by rw [upd_ne _ _ _ _ (by decide), f0]; rw [hi] at e; exact e.symm)) (fun e => .inl ⟨by rw [hi] at e; cases e; exact Nat.le_refl _, (O1.lt i hi).2⟩)⟩
      simp [go_sem, actOf, upd] at F
      simp only [Act.put, List.setIfInBounds_toArray, List.set_cons_succ, List.set_cons_zero]
      exact F
  · intro x iv W hp
    obtain ⟨a3, c3, e3, O3, own3⟩ := hp.post 3 (by decide)
    obtain ⟨a7, c7, e7, O7, own7⟩ := hp.post 7 (by decide)
    obtain ⟨f0, z0, -⟩ := hp.post 0 (by decide)
    obtain ⟨f4, z4, -⟩ := hp.post 4 (by decide)
    have p04 := hp.apart 0 (by decide) 4 (by decide) (by decide)
    have p07 := hp.apart 0 (by decide) 7 (by decide) (by decide)
    have p34 := hp.apart 3 (by decide) 4 (by decide) (by decide)
    have p37 := hp.apart 3 (by decide) 7 (by decide) (by decide)
    have l3 := (hp.lo 3 (by decide)).2.1
    have l7 := (hp.lo 7 (by decide)).2.1
    have hne : ∀ k, (x 3).ownBlock = some k → (x 7).ownBlock ≠ some k := fun k h1 h2 => by
      have q3 := own3 k h1
      have q7 := own7 k h2
      rw [f0] at q3
      rw [f4] at q7
      simp only [Value.ownBlock, Option.some.injEq] at q3 q7
      omega
    obtain ⟨k0, k1, bel, -⟩ := HC.out W hp.bel
    rw [e3] at O3 hne
    rw [e7] at O7 hne
    have HT : Hid (Two W (w.heap.size + 1 + 1) (.slice a3 xs.length c3) (.slice a7 ys.length c7) xs ys ∧ Below w.heap.size w W) := ⟨⟨O3, O7, hne⟩, bel⟩
    have r0 : W.cell? ⟨w.heap.size + 1, 0, none⟩ = some (.slice none 0 0) := k1.cell 0
    have r1 : W.cell? ⟨w.heap.size + 1, 1, none⟩ = some (.slice none 0 0) := k1.cell 1
    have z5 := k1.frozen 0
    have z6 := k1.frozen 1
    clear hp own3 own7 O3 O7 hne k0 k1 bel f0 f4 z0 z4 p04 p07 p34 p37 l3 l7
    simp only [actOf, e3, e7]
    go_wp2_with fail
    rw [List.filterMap_nil]
    go_wp2
    refine bodyPost_ret (v := .agg #[.slice a3 xs.length c3, .slice a7 ys.length c7]) (by simp [results, go_sem, r0, r1]) rfl ⟨_, _, rfl, ?_, ?_⟩
    · exact ((HT.out.1.set_other (by omega) _).set_other (by omega) _).base_le (by omega)
    · exact (HT.out.2.setCell (by simp) _).setCell (by simp) _
end Go.Proofs.YtggjillpfclajaaGreat
