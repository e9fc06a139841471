/- spec.DiskNew by its contract. -/
import Derived.Test.YtajollmmpdkhbaaDn
import Derived.Test.YtajollmmpdkhbaaAp
import Derived.Deep.RegionWith
namespace Go.Proofs.Ytajollmmpdkhbaa
open Go.RowKit Kit
/-- A disk while it is filled by the specification: the result's block, the variable's block b, its parts. -/
structure Ds (w w' : World) (b : Nat) (u v iv bv : Value) (is : List Ino) (bs : List Blk) : Prop where
  res : AtC w' w.heap.size 28 zD
  box : AtC w' b 28 #[u, v, iv, bv]
  dsk : DO w' (fun k => w.heap.size < k ∧ k ≠ b) u v iv bv newX newY is bs
  bel : Below w.heap.size w w'
  hb : w.heap.size < b
namespace Ds
variable {w w' w1 : World} {b : Nat} {u v iv bv : Value} {is : List Ino} {bs : List Blk}
theorem below (h : Ds w w' b u v iv bv is bs) (hb : Below w'.heap.size w' w1) : Ds w w1 b u v iv bv is bs :=
  ⟨h.res.over hb, h.box.over hb, h.dsk.below hb (Nat.le_refl _), h.bel.trans (hb.mono h.bel.size), h.hb⟩
theorem drew (h : Ds w w' b u v iv bv is bs) : Ds w w'.drew b u v iv bv is bs := h.below (Below.refl _ _).drew
theorem put (h : Ds w w' b u v iv bv is bs) {g n cap : Nat} (hv : iv = .slice (some ⟨g, 0, none⟩) n cap) (j : Nat) (hj : j < is.length) (k l : Int) (p : Value) (hb : Below w'.heap.size w' w1) (hO : ROwns w1 w'.heap.size 3 p (ic [0, 0])) :
    Ds w (((w1.setCell ⟨g, j * 3, none⟩ (.int .i64 k)).setCell ⟨g, j * 3 + 1, none⟩ (.int .i64 l)).setCell ⟨g, j * 3 + 2, none⟩ p) b u v iv bv (is.set j (k, l, [0, 0])) bs := by
  obtain ⟨-, -, hg, -, hS, hSb⟩ := h.dsk.atI hv j hj
  have hbs := h.box.lt
  have hsz := h.bel.size
  refine ⟨(((h.res.over hb).other (by omega) _).other (by omega) _).other (by omega) _, (((h.box.over hb).other (Ne.symm hSb) _).other (Ne.symm hSb) _).other (Ne.symm hSb) _, ?_, (((h.bel.trans (hb.mono hsz)).setCell (by show w.heap.size ≤ g; omega) _).setCell (by show w.heap.size ≤ g; omega) _).setCell (by show w.heap.size ≤ g; omega) _, h.hb⟩
  have := h.dsk.putI hv j hj (.int .i64 k, .int .i64 l, p) (k, l, [0, 0]) hb ⟨rfl, rfl, hO.base_le (Nat.zero_le _)⟩ (fun k hk => (hO.lt k hk).1)
  have hr := h.res.lt
  exact this.mono fun k hk => hk.elim id (fun e => ⟨by omega, by omega⟩)
/-- An inode without anything is appended, and the list is stored. -/
theorem app (h : Ds w w' b u v iv bv is bs) : ∃ ti, TOwns w' 49 iv ti ∧ ti.length = is.length ∧ ∀ (w1 w2 : World) (iv' p : Value), Below w'.heap.size w' w1 → ROwns w1 w'.heap.size 3 p (ic [0, 0]) →
    TOwns w2 49 iv' (ti ++ [(.int .i64 0, .int .i64 0, p)]) → w1.grownBy w2 iv.ownBlock → (∀ k, iv'.ownBlock = some k → iv.ownBlock = some k ∨ w1.heap.size ≤ k) →
    (AtC w2 b 28 #[u, v, iv, bv]) ∧ Ds w (w2.setCell ⟨b, 2, none⟩ iv') b u v iv' bv (is ++ [noI]) bs := by
  obtain ⟨ti, h1, h2, h3⟩ := h.dsk.appI
  refine ⟨ti, h1, h2, fun w1 w2 iv' p hb hO hr hg hv => ?_⟩
  have hS := (fun (S1 : Nat → Prop) k (hk : iv.ownBlock = some k) (q : ∀ k, iv.ownBlock = some k → S1 k) => q k hk) (fun k => w.heap.size < k ∧ k ≠ b)
  have hso : ∀ k, iv.ownBlock = some k → w.heap.size < k ∧ k ≠ b := by
    obtain ⟨S1, S2, S3, ti, tb, a1, a2, a3, a4, a5, a6, a7⟩ := h.dsk
    exact fun k hk => a7 k (.inr (.inl (a3.so k hk)))
  have hbs := h.box.lt
  have hsz := h.bel.size
  have hsz1 := hb.size
  have hr0 := h.res.lt
  have e1 : AtC w2 w.heap.size 28 zD := (hg.block _ (by omega) (fun e => by have := hso _ e.symm; omega)).trans (h.res.over hb)
  have e2 : AtC w2 b 28 #[u, v, iv, bv] := (hg.block _ (by omega) (fun e => by have := hso _ e.symm; omega)).trans (h.box.over hb)
  have d := h3 w1 w2 iv' (.int .i64 0, .int .i64 0, p) noI hb ⟨rfl, rfl, hO.base_le (Nat.zero_le _)⟩ (fun k hk => (hO.lt k hk).1) hr hg hv
  have b2 : Below w.heap.size w w2 := (h.bel.trans (hb.mono hsz)).grown hg (by omega) (fun k hk => by have := hso k hk; omega)
  refine ⟨e2, ⟨e1.other (by have := h.hb; omega) _, e2.set 2 iv', ?_, b2.setCell (by show w.heap.size ≤ b; have := h.hb; omega) _, h.hb⟩⟩
  have d2 := d.mono (S' := fun k => w.heap.size < k ∧ k ≠ b) fun k hk => hk.elim id (fun e => ⟨by omega, by omega⟩)
  exact d2.of_heap fun k hk _ => heap_setCell_other w2 ⟨b, 2, none⟩ k iv' (by show k ≠ b; omega)
/-- The blocks are made, and their list is stored. -/
theorem mkB (h : Ds w w' b u v iv bv is bs) (MB : Array Value) (hMB : madeCells #[.bool false, .slice none 0 0, .string ⟨#[]⟩] (16 * 3) = MB) :
    Ds w ((w'.alloc (.cells MB 65)).setCell ⟨b, 3, none⟩ (.slice (some ⟨w'.heap.size, 0, none⟩) 16 16)) b u v iv (.slice (some ⟨w'.heap.size, 0, none⟩) 16 16) is newBs := by
  have GB : GO KB (w'.alloc (.cells MB 65)) (fun k => k = w'.heap.size) (.slice (some ⟨w'.heap.size, 0, none⟩) 16 16) (List.replicate 16 zB3) (List.replicate 16 zB) := GO.of_at (AtC.new w' 65 MB) (by rw [← hMB]; exact made_three _ _ _ _) (by unfold maxLen; decide) (zB_own _) rfl
  have hb1 : Below w'.heap.size w' (w'.alloc (.cells MB 65)) := (Below.refl _ w').alloc (Nat.le_refl _) _
  have d := h.dsk.setB hb1 GB (fun k hk => by omega)
  have hbs := h.box.lt
  have hsz := h.bel.size
  have hr0 := h.res.lt
  refine ⟨(h.res.alloc _).other (by have := h.hb; omega) _, (h.box.alloc _).set 3 _, ?_, (h.bel.alloc hsz _).setCell (by show w.heap.size ≤ b; have := h.hb; omega) _, h.hb⟩
  have d2 := d.mono (S' := fun k => w.heap.size < k ∧ k ≠ b) fun k hk => hk.elim id (fun e => ⟨by omega, by omega⟩)
  exact d2.of_heap fun k hk _ => heap_setCell_other _ ⟨b, 3, none⟩ k _ (by show k ≠ b; omega)
end Ds
theorem ds_start {w w1 : World} {u v : Value} (B1 : Below (w.alloc (.cells zD 28)).heap.size (w.alloc (.cells zD 28)) w1) (T1 : Two w1 (w.alloc (.cells zD 28)).heap.size u v newX newY) :
    Ds w (w1.alloc (.cells #[u, v, .slice none 0 0, .slice none 0 0] 28)) w1.heap.size u v (.slice none 0 0) (.slice none 0 0) [] [] := by
  have hsz := B1.size
  simp only [World.size_alloc] at hsz
  have own1 : ∀ k, (u.ownBlock = some k ∨ v.ownBlock = some k) → w.heap.size < k ∧ k < w1.heap.size := fun k hk => by
    have := hk.elim (fun e => T1.a.lt k e) (fun e => T1.b.lt k e)
    simp only [World.size_alloc] at this
    omega
  refine ⟨((AtC.new w 28 zD).over B1).alloc _, AtC.new w1 28 _, ⟨fun k => u.ownBlock = some k ∨ v.ownBlock = some k, fun _ => False, fun _ => False, [], [], (T1.alloc _).base_le (Nat.zero_le _), fun k hk => hk, ?_, ?_, fun k hk => ⟨id, id⟩, fun k hk => hk.elim, fun k hk => ?_⟩, ?_, by omega⟩
  · exact ⟨rfl, TOwns.nil _ _, fun j hj => by simp at hj, fun i j hi => by simp at hi, fun j hj => by simp at hj, (fun k e => by cases e), fun j hj => by simp at hj⟩
  · exact ⟨rfl, TOwns.nil _ _, fun j hj => by simp at hj, fun i j hi => by simp at hi, fun j hj => by simp at hj, (fun k e => by cases e), fun j hj => by simp at hj⟩
  · rcases hk with hk | hk | hk
    · have := own1 k hk; omega
    · exact hk.elim
    · exact hk.elim
  · exact (((Below.refl _ w).alloc (Nat.le_refl _) _).trans (B1.mono (by simp))).alloc (by omega) _
/-- What comes up while an inode is appended. -/
def PostA (b : Nat) (gi : Option Addr) (n ci : Nat) (i lo hi : Nat) (w : World) (v : Value) : Prop :=
  (i = 0 → v = .pointer (some ⟨b, 2, none⟩)) ∧ (i = 1 → v = .slice gi n ci) ∧
  (i = 2 → ∃ p, v = .agg #[.int .i64 0, .int .i64 (newLinks 0), p] ∧ ROwns w lo 3 p (ic [0, 0]) ∧ ∀ k, p.ownBlock = some k → k < hi) ∧
  (i = 3 → v = .slice (some ⟨lo, 0, none⟩) 1 1 ∧ hi = lo + 1)
theorem PostA.stable {b : Nat} {gi : Option Addr} {n ci : Nat} (i lo hi : Nat) (w w' : World) (v : Value) (h : PostA b gi n ci i lo hi w v) (hb : Below w.heap.size w w') : PostA b gi n ci i lo hi w' v :=
  ⟨h.1, h.2.1, fun e => by obtain ⟨p, h1, h2, h3⟩ := h.2.2.1 e; exact ⟨p, h1, h2.below hb (Nat.le_refl _), h3⟩, h.2.2.2⟩
/-- The new member lies in a block of its own. -/
def InvA (s : List Nat) (x : Nat → Value) (w : World) : Prop := 3 ∈ s → 2 ∈ s ∧ ∃ p g, x 2 = .agg #[.int .i64 0, .int .i64 (newLinks 0), p] ∧ x 3 = .slice (some ⟨g, 0, none⟩) 1 1 ∧ AtC w g 49 #[.int .i64 0, .int .i64 (newLinks 0), p]
theorem InvA.next {s : List Nat} {x : Nat → Value} {w w' : World} (h : InvA s x w) {j : Nat} {v : Value} (hj : ¬ j ∈ s) (h3 : j ≠ 3) (hb : Below w.heap.size w w') : InvA (j :: s) (upd x j v) w' := fun hm => by
  rcases List.mem_cons.1 hm with e | hm
  · exact absurd e.symm h3
  · obtain ⟨h2, p, g, e2, e3, A⟩ := h hm
    have ne : ∀ i ∈ s, i ≠ j := fun i hi e => hj (e ▸ hi)
    exact ⟨List.mem_cons_of_mem _ h2, p, g, by rw [upd_ne _ _ _ _ (ne _ h2), e2], by rw [upd_ne _ _ _ _ (ne _ hm), e3], A.over hb⟩
set_option maxRecDepth 100000 in
set_option maxHeartbeats 3200000 in
theorem specNew_disk (w : World) :
    Calls Try.prog 7 #[] w fun e w' => ∃ u v iv bv, e = .returned (.agg #[u, v, iv, bv]) ∧ DO w' (fun k => w.heap.size ≤ k) u v iv bv newX newY newIs newBs ∧ Below w.heap.size w w' := by
  have mb : ∀ w, (Instr.makeSlice 26 (.int .i64 16) (.int .i64 16)).run Try.prog w = .ok (.slice (some ⟨w.heap.size, 0, none⟩) 16 16) (w.alloc (.cells (madeCells #[.bool false, .slice none 0 0, .string ⟨#[]⟩] (16 * 3)) 65)) := make_blk 16 (by decide)
  obtain ⟨MB, hMB⟩ : ∃ M, madeCells #[.bool false, .slice none 0 0, .string ⟨#[]⟩] (16 * 3) = M := ⟨_, rfl⟩
  rw [hMB] at mb
  have HMB := hide hMB
  clear hMB
  go_enter Try.func7, Try.ntmps7
  go_wp2_with fail
  refine (specNew_anyB _).mono ?_
  rintro e w1 ⟨u, v, rfl, T1, B1⟩
  obtain ⟨a1, c1, a2, c2, rfl, rfl⟩ := T1.form
  have HD := hide (ds_start B1 T1)
  clear T1 B1
  go_wp2_with fail
  generalize w1.heap.size = b at *
  generalize w1.alloc (.cells #[.slice a1 newX.length c1, .slice a2 newY.length c2, .slice none 0 0, .slice none 0 0] 28) = W1 at *
  go_loopw [2] (fun i wr => ∃ j : Nat, j ≤ 8 ∧ i = .int .i64 j ∧ Hid (∃ iv, Ds w wr b (.slice a1 newX.length c1) (.slice a2 newY.length c2) iv (.slice none 0 0) (List.replicate j noI) [])) (fun i _ => 8 - (intOf i).toNat)
  case atStart => exact ⟨0, Nat.zero_le _, rfl, _, HD.out⟩
  case round =>
    obtain ⟨j, hj, rfl, HR⟩ := hrel
    obtain ⟨iv, hds⟩ := HR.out
    by_cases hlt : j < 8
    · have j1 : (j : Int) < 8 := by omega
      obtain ⟨ti, k1, k2, k3⟩ := hds.drew.app
      obtain ⟨gi, ci, rfl, -⟩ := k1.form
      have hti : ti.length = j := by rw [k2]; simp
      have q2 : wr.cell? ⟨b, 2, none⟩ = some (.slice gi ti.length ci) := hds.box.cell 2
      have HX := hide (And.intro k1 (And.intro k3 hti))
      have HDS := hide hds
      clear k1 k2 k3 hds HR
      have hb := HDS.out.box.lt
      clear hti
      go_wp2_with fail
      refine wp_region_makers (by kernel_rfl) [0, 1, 2, 3] [4, 5, 6] (fun x => ⟨#[.pointer (some ⟨w.heap.size, 0, none⟩), .pointer (some ⟨b, 0, none⟩), .int .i64 (j : Int), .agg #[.slice a1 newX.length c1, .slice a2 newY.length c2], .agg #[.slice a1 newX.length c1, .slice a2 newY.length c2, .slice none 0 0, .slice none 0 0], .int .i64 (j : Int), .bool true, u7, u8, x 0, x 1, x 2, x 3, u13, u14, undef, undef, undef, undef, undef, undef, undef], []⟩) (fun i => match i with | 0 => u9 | 1 => u10 | 2 => u11 | _ => u12) rfl (PostA b gi ti.length ci) InvA PostA.stable (by kernel_rfl) (by kernel_rfl) rfl (fun h => by cases h) ?_ ?_
      · intro j' hj' s x iv W hr hns hp hI K hK
        simp only [List.mem_cons, List.not_mem_nil, or_false] at hj'
        rcases hj' with rfl | rfl | rfl | rfl
        · refine wpOp_step (o := _) rfl fun K' hK' => ?_
          have HK : Hid (∀ v W', Below W.heap.size W W' → PostA b gi ti.length ci 0 W.heap.size W'.heap.size W' v → K' ⟨#[.pointer (some ⟨w.heap.size, 0, none⟩), .pointer (some ⟨b, 0, none⟩), .int .i64 (j : Int), .agg #[.slice a1 newX.length c1, .slice a2 newY.length c2], .agg #[.slice a1 newX.length c1, .slice a2 newY.length c2, .slice none 0 0, .slice none 0 0], .int .i64 (j : Int), .bool true, u7, u8, v, x 1, x 2, x 3, u13, u14, undef, undef, undef, undef, undef, undef, undef], []⟩ W') := fun v W' h1 h2 => hK' _ _ (hK v W' h1 h2 (hI.next hns (by decide) h1))
          clear hK hK' hr hp hI
          go_simp
          exact HK.out _ _ (Below.refl _ _) ⟨fun _ => rfl, (fun e => by cases e), (fun e => by cases e), (fun e => by cases e)⟩
        · have d0 : 0 ∈ s := ready_dep hr rfl ⟨{ on := 0, ground := .data }, by simp, rfl, rfl⟩
          refine wpOp_step (o := _) rfl fun K' hK' => ?_
          have HK : Hid (∀ v W', Below W.heap.size W W' → PostA b gi ti.length ci 1 W.heap.size W'.heap.size W' v → K' ⟨#[.pointer (some ⟨w.heap.size, 0, none⟩), .pointer (some ⟨b, 0, none⟩), .int .i64 (j : Int), .agg #[.slice a1 newX.length c1, .slice a2 newY.length c2], .agg #[.slice a1 newX.length c1, .slice a2 newY.length c2, .slice none 0 0, .slice none 0 0], .int .i64 (j : Int), .bool true, u7, u8, x 0, v, x 2, x 3, u13, u14, undef, undef, undef, undef, undef, undef, undef], []⟩ W') := fun v W' h1 h2 => hK' _ _ (hK v W' h1 h2 (hI.next hns (by decide) h1))
          obtain e0 := (hp.post 0 d0).1 rfl
          have y2 : W.cell? ⟨b, 2, none⟩ = some (.slice gi ti.length ci) := (HDS.out.drew.below hp.bel).box.cell 2
          clear hK hK' hr hp hI
          simp only [e0]
          simp only [e0] at HK
          go_simp
          exact HK.out _ _ (Below.refl _ _) ⟨(fun e => by cases e), fun _ => rfl, (fun e => by cases e), (fun e => by cases e)⟩
        · refine wpOp_step (o := _) rfl fun K' hK' => ?_
          have HK : Hid (∀ v W', Below W.heap.size W W' → PostA b gi ti.length ci 2 W.heap.size W'.heap.size W' v → K' ⟨#[.pointer (some ⟨w.heap.size, 0, none⟩), .pointer (some ⟨b, 0, none⟩), .int .i64 (j : Int), .agg #[.slice a1 newX.length c1, .slice a2 newY.length c2], .agg #[.slice a1 newX.length c1, .slice a2 newY.length c2, .slice none 0 0, .slice none 0 0], .int .i64 (j : Int), .bool true, u7, u8, x 0, x 1, v, x 3, u13, u14, undef, undef, undef, undef, undef, undef, undef], []⟩ W') := fun v W' h1 h2 => hK' _ _ (hK v W' h1 h2 (hI.next hns (by decide) h1))
          clear hK hK' hr hp hI
          go_simp
          refine (specNew_anyI _ _).mono ?_
          rintro e w6 ⟨p, rfl, O6, B6⟩
          go_simp
          exact HK.out _ _ B6 ⟨(fun e => by cases e), (fun e => by cases e), fun _ => ⟨p, rfl, O6, fun k hk => (O6.lt k hk).2⟩, (fun e => by cases e)⟩
        · have d2 : 2 ∈ s := ready_dep hr rfl ⟨{ on := 2, ground := .data }, by simp, rfl, rfl⟩
          refine wpOp_step (o := _) rfl fun K' hK' => ?_
          have HK : Hid (∀ v W', Below W.heap.size W W' → PostA b gi ti.length ci 3 W.heap.size W'.heap.size W' v → (2 ∈ 3 :: s ∧ ∃ p g, upd x 3 v 2 = .agg #[.int .i64 0, .int .i64 (newLinks 0), p] ∧ upd x 3 v 3 = .slice (some ⟨g, 0, none⟩) 1 1 ∧ AtC W' g 49 #[.int .i64 0, .int .i64 (newLinks 0), p]) → K' ⟨#[.pointer (some ⟨w.heap.size, 0, none⟩), .pointer (some ⟨b, 0, none⟩), .int .i64 (j : Int), .agg #[.slice a1 newX.length c1, .slice a2 newY.length c2], .agg #[.slice a1 newX.length c1, .slice a2 newY.length c2, .slice none 0 0, .slice none 0 0], .int .i64 (j : Int), .bool true, u7, u8, x 0, x 1, x 2, v, u13, u14, undef, undef, undef, undef, undef, undef, undef], []⟩ W') := fun v W' h1 h2 h3 => hK' _ _ (hK v W' h1 h2 (fun _ => h3))
          obtain ⟨p, e2, O2, -⟩ := (hp.post 2 d2).2.2.1 rfl
          obtain ⟨s1, t1, rfl⟩ := O2.form2
          clear hK hK' hr hp hI
          simp only [e2]
          simp only [e2] at HK
          go_simp
          exact HK.out _ _ ((Below.refl _ W).alloc (Nat.le_refl _) _) ⟨(fun e => by cases e), (fun e => by cases e), (fun e => by cases e), fun _ => ⟨rfl, by simp⟩⟩ ⟨List.mem_cons_of_mem _ d2, _, _, by rw [upd_ne _ _ _ _ (by decide), e2], by rw [upd_self], AtC.new W 49 _⟩
      · intro s x iv W hs hp hI
        obtain ⟨-, p, g, e2, e3, A3⟩ := hI (hs 3 (by decide))
        have e1 := (hp.post 1 (by decide)).2.1 rfl
        obtain ⟨p', f2, O2, -⟩ := (hp.post 2 (by decide)).2.2.1 rfl
        rw [e2] at f2
        simp only [Value.agg.injEq, Array.mk.injEq, List.cons.injEq, and_true, true_and] at f2
        subst f2
        have l2 := (hp.lo 2 (by decide)).1
        have hbel := hp.bel
        have O3 : ROwns W wr.drew.heap.size 3 p (ic [0, 0]) := O2.base_le l2
        obtain ⟨s1, t1, rfl⟩ := O3.form2
        have hT : TOwns W 49 (.slice gi ti.length ci) ti := HX.out.1.of_heap fun k hk => hbel.block k (HX.out.1.lt k hk)
        have HN : Hid (∀ v' w', TOwns w' 49 v' (ti ++ [(.int .i64 0, .int .i64 0, .slice s1 2 t1)]) → W.grownBy w' (Value.slice gi ti.length ci).ownBlock → (∀ k, v'.ownBlock = some k → (Value.slice gi ti.length ci).ownBlock = some k ∨ W.heap.size ≤ k) → (AtC w' b 28 #[.slice a1 newX.length c1, .slice a2 newY.length c2, .slice gi ti.length ci, .slice none 0 0]) ∧ Ds w (w'.setCell ⟨b, 2, none⟩ v') b (.slice a1 newX.length c1) (.slice a2 newY.length c2) v' (.slice none 0 0) (List.replicate j noI ++ [noI]) []) := fun v' w' h1 h2 h3 => HX.out.2.1 W w' v' _ hbel O3 h1 h2 h3
        have HTL : Hid (ti.length ≤ 1000000000000) := by have := HX.out.2.2; show ti.length ≤ _; omega
        have HA3 := hide A3
        have HT := hide hT
        simp only [e1, e2, e3]
        clear hT O3 O2 hp hI hs l2 hbel A3 e1 e2 e3 HX HDS q2
        refine wpList_step fun K' hK' => ?_
        refine step_append_three _ rfl (.tmp 10) (.tmp 12) 25 rfl 49 Try.u25 _ 40 Try.i49 rfl (by decide) (.slice gi ti.length ci) ti rfl HT.out g (.int .i64 0, .int .i64 0, .slice s1 2 t1) rfl ⟨HA3.out.cell 0, HA3.out.cell 1, HA3.out.cell 2⟩ ⟨rfl, rfl, rfl⟩ HTL.out ?_
        intro v9 w9 T9 G9 V9
        refine hK' _ _ ?_
        obtain ⟨e9, D9⟩ := HN.out v9 w9 T9 G9 V9
        obtain ⟨g9, c9, rfl, -⟩ := T9.form
        have e10 : (ti ++ [((.int .i64 0, .int .i64 0, .slice s1 2 t1) : V3)]).length = ti.length + 1 := by simp
        rw [e10] at D9 ⊢
        clear e10
        have z2 := e9.frozen 2
        have z3 : w9.cell? ⟨b, 2, none⟩ = some (.slice gi ti.length ci) := e9.cell 2
        have H9 := hide D9
        clear e9 D9 T9 G9 V9 HN HA3 HT HTL hK' K'
        go_wp2_with fail
        rw [List.filterMap_nil]
        go_wp2
        go_roundw
        case rel => exact ⟨j + 1, by omega, by go_num, _, by rw [List.replicate_succ']; exact H9.out⟩
        case measure => simp [intOf]; omega
    · have hj8 : j = 8 := by omega
      subst hj8
      obtain ⟨ti, k1, k2, -⟩ := hds.app
      rw [List.length_replicate] at k2
      obtain ⟨gi, ci, rfl, -⟩ := k1.at 0 (by omega)
      rw [k2] at hds
      have q2 : wr.cell? ⟨b, 2, none⟩ = some (.slice (some ⟨gi, 0, none⟩) 8 ci) := hds.box.cell 2
      have hjl : 0 < (List.replicate 8 noI).length := by decide
      have HJ := hide hjl
      have HR2 := hide hds
      clear hjl k1 k2 hds HR
      go_wp2_with fail
      go_region_held3 (fun w' => w'.cell? ⟨b, 2, none⟩ = some (.slice (some ⟨gi, 0, none⟩) 8 ci)) (first | exact HR2.out.drew.box.cell 2 | exact (HR2.out.drew.below B6).box.cell 2 | exact (HR2.out.drew.put rfl 0 HJ.out _ _ _ B6 O6).box.cell 2) ((go_at_call 21; refine (specNew_anyI _ _).mono ?_; rintro e w6 ⟨p, rfl, O6, B6⟩; obtain ⟨⟨x1, x2, x3, m1, m2, m3, -, -, -⟩, fz, -⟩ := (HR2.out.drew.below B6).dsk.atI rfl 0 HJ.out; have n0 := fz (0 * 3); have n1 := fz (0 * 3 + 1); have n2 := fz (0 * 3 + 2); clear fz; obtain ⟨s1, t1, rfl⟩ := O6.form2; simp only [Nat.zero_mul, Nat.zero_add] at m1 m2 m3 n0 n1 n2))
      have hp6 := HR2.out.drew.put rfl 0 HJ.out 2 (newLinks 2) (.slice s1 2 t1) B6 O6
      rw [show ((2 : Int), newLinks 2, [(0 : Int), 0]) = (2, 1, [0, 0]) from rfl, show (List.replicate 8 noI).set 0 (2, 1, [0, 0]) = newIs from rfl] at hp6
      simp only [Nat.zero_mul, Nat.zero_add] at hp6
      obtain ⟨W6, hW6⟩ : ∃ W6, ((w6.setCell ⟨gi, 0, none⟩ (.int .i64 2)).setCell ⟨gi, 1, none⟩ (.int .i64 (newLinks 2))).setCell ⟨gi, 2, none⟩ (.slice s1 2 t1) = W6 := ⟨_, rfl⟩
      rw [hW6] at hp6 ⊢
      clear hW6 B6 O6 m1 m2 m3 n0 n1 n2 HR2 HJ
      have hp7 := hp6.mkB MB HMB.out
      have b3 : W6.cell? ⟨b, 3, none⟩ = some (.slice none 0 0) := hp6.box.cell 3
      have b4 := hp6.box.frozen 3
      have b5 := hp6.box.lt
      obtain ⟨W7, hW7⟩ : ∃ W7, (W6.alloc (.cells MB 65)).setCell ⟨b, 3, none⟩ (.slice (some ⟨W6.heap.size, 0, none⟩) 16 16) = W7 := ⟨_, rfl⟩
      rw [hW7] at hp7
      have H7 := hide hp7
      have y0 : W7.cell? ⟨b, 0, none⟩ = some (.slice a1 newX.length c1) := hp7.box.cell 0
      have y1 : W7.cell? ⟨b, 1, none⟩ = some (.slice a2 newY.length c2) := hp7.box.cell 1
      have y2 : W7.cell? ⟨b, 2, none⟩ = some (.slice (some ⟨gi, 0, none⟩) 8 ci) := hp7.box.cell 2
      have y3 : W7.cell? ⟨b, 3, none⟩ = some (.slice (some ⟨W6.heap.size, 0, none⟩) 16 16) := hp7.box.cell 3
      have r0 : W7.cell? ⟨w.heap.size, 0, none⟩ = some (.slice none 0 0) := hp7.res.cell 0
      have r1 : W7.cell? ⟨w.heap.size, 1, none⟩ = some (.slice none 0 0) := hp7.res.cell 1
      have r2 : W7.cell? ⟨w.heap.size, 2, none⟩ = some (.slice none 0 0) := hp7.res.cell 2
      have r3 : W7.cell? ⟨w.heap.size, 3, none⟩ = some (.slice none 0 0) := hp7.res.cell 3
      have v0 := hp7.res.frozen 0
      have v1 := hp7.res.frozen 1
      have v2 := hp7.res.frozen 2
      have v3 := hp7.res.frozen 3
      clear hp6 hp7
      go_wp2
      refine bodyPost_ret (v := .agg #[.slice a1 newX.length c1, .slice a2 newY.length c2, .slice (some ⟨gi, 0, none⟩) 8 ci, .slice (some ⟨W6.heap.size, 0, none⟩) 16 16]) (by simp [results, go_sem, r0, r1, r2, r3]) rfl ⟨_, _, _, _, rfl, ?_, ?_⟩
      · exact (H7.out.dsk.of_heap fun k hk _ => ((((heap_setCell_other _ ⟨w.heap.size, 3, none⟩ k _ (by show k ≠ w.heap.size; omega)).trans (heap_setCell_other _ ⟨w.heap.size, 2, none⟩ k _ (by show k ≠ w.heap.size; omega))).trans (heap_setCell_other _ ⟨w.heap.size, 1, none⟩ k _ (by show k ≠ w.heap.size; omega))).trans (heap_setCell_other _ ⟨w.heap.size, 0, none⟩ k _ (by show k ≠ w.heap.size; omega)))).mono fun k hk => by omega
      · exact (((H7.out.bel.setCell (Nat.le_refl _) _).setCell (Nat.le_refl _) _).setCell (Nat.le_refl _) _).setCell (Nat.le_refl _) _
end Go.Proofs.Ytajollmmpdkhbaa
