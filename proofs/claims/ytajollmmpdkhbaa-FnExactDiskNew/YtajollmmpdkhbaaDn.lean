/- impl.DiskNew by its contract. -/
import Derived.Test.YtajollmmpdkhbaaDp
import Derived.Test.YtajollmmpdkhbaaMr
import Derived.Test.YtajollmmpdkhbaaINew
import Derived.Test.YtajollmmpdkhbaaBNew
import Derived.Deep.RegionHeld3
namespace Go.Proofs.Ytajollmmpdkhbaa
open Go.RowKit Kit
/-- The inodes and blocks of a new disk. -/
def noI : Ino := (0, 0, [0, 0])
def newIs : List Ino := (2, 1, [0, 0]) :: List.replicate 7 noI
def newBs : List Blk := List.replicate 16 zB
def fillI (j : Nat) : List Ino := List.replicate j noI ++ List.replicate (8 - j) zI
theorem fillI_length (j : Nat) (h : j ≤ 8) : (fillI j).length = 8 := by simp [fillI]; omega
theorem fillI_set (j : Nat) (h : j < 8) : (fillI j).set j noI = fillI (j + 1) := by
  have e : 8 - j = (8 - (j + 1)) + 1 := by omega
  rw [fillI, List.set_append_right _ _ (by simp), e, List.replicate_succ]
  simp [fillI, List.replicate_succ']
theorem fillI_end : (fillI 8).set 0 (2, 1, [0, 0]) = newIs := rfl
/-- The cells of a disk without anything. -/
def zD : Array Value := #[.slice none 0 0, .slice none 0 0, .slice none 0 0, .slice none 0 0]
/-- A new disk while it is filled: the result's block, the variable's block b, its parts. -/
structure Dw (w w' : World) (b : Nat) (u v : Value) (g : Nat) (bv : Value) (is : List Ino) : Prop where
  res : AtC w' w.heap.size 28 zD
  box : AtC w' b 28 #[u, v, .slice (some ⟨g, 0, none⟩) 8 8, bv]
  dsk : DO w' (fun k => w.heap.size < k ∧ k ≠ b) u v (.slice (some ⟨g, 0, none⟩) 8 8) bv newX newY is newBs
  bel : Below w.heap.size w w'
  hb : w.heap.size < b
theorem Dw.put {w w' w1 : World} {b : Nat} {u v : Value} {g : Nat} {bv : Value} {is : List Ino} (h : Dw w w' b u v g bv is) (j : Nat) (hj : j < is.length) (k l : Int) (p : Value) (hb : Below w'.heap.size w' w1) (hO : ROwns w1 w'.heap.size 3 p (ic [0, 0])) :
    Dw w (((w1.setCell ⟨g, j * 3, none⟩ (.int .i64 k)).setCell ⟨g, j * 3 + 1, none⟩ (.int .i64 l)).setCell ⟨g, j * 3 + 2, none⟩ p) b u v g bv (is.set j (k, l, [0, 0])) := by
  obtain ⟨-, -, hg, -, hS, hSb⟩ := h.dsk.atI rfl j hj
  have hbs := h.box.lt
  have hsz := h.bel.size
  refine ⟨(((h.res.over hb).other (by omega) _).other (by omega) _).other (by omega) _, (((h.box.over hb).other (Ne.symm hSb) _).other (Ne.symm hSb) _).other (Ne.symm hSb) _, ?_, (((h.bel.trans (hb.mono hsz)).setCell (by show w.heap.size ≤ g; omega) _).setCell (by show w.heap.size ≤ g; omega) _).setCell (by show w.heap.size ≤ g; omega) _, h.hb⟩
  have := h.dsk.putI rfl j hj (.int .i64 k, .int .i64 l, p) (k, l, [0, 0]) hb ⟨rfl, rfl, hO.base_le (Nat.zero_le _)⟩ (fun k hk => (hO.lt k hk).1)
  have hr := h.res.lt
  exact this.mono fun k hk => hk.elim id (fun e => ⟨by omega, by omega⟩)
theorem Dw.below {w w' w1 : World} {b : Nat} {u v : Value} {g : Nat} {bv : Value} {is : List Ino} (h : Dw w w' b u v g bv is) (hb : Below w'.heap.size w' w1) : Dw w w1 b u v g bv is :=
  ⟨h.res.over hb, h.box.over hb, h.dsk.below hb (Nat.le_refl _), h.bel.trans (hb.mono h.bel.size), h.hb⟩
theorem Dw.drew {w w' : World} {b : Nat} {u v : Value} {g : Nat} {bv : Value} {is : List Ino} (h : Dw w w' b u v g bv is) : Dw w w'.drew b u v g bv is := h.below (Below.refl _ _).drew
theorem dw_start {w W : World} {lo hi gi gb b : Nat} {u v : Value} {MI MB : Array Value} (T0 : Two W lo u v newX newY) (own0 : ∀ k, (u.ownBlock = some k ∨ v.ownBlock = some k) → k < hi) (A1 : AtC W gi 49 MI) (A2 : AtC W gb 65 MB) (A4 : AtC W b 28 zD) (hres : AtC W w.heap.size 28 zD) (hbel : Below w.heap.size w W)
    (l0 : w.heap.size + 1 ≤ lo) (l1 : w.heap.size + 1 ≤ gi) (l2 : w.heap.size + 1 ≤ gb) (l4 : w.heap.size + 1 ≤ b) (p01 : hi ≤ gi ∨ gi + 1 ≤ lo) (p02 : hi ≤ gb ∨ gb + 1 ≤ lo) (p04 : hi ≤ b ∨ b + 1 ≤ lo) (p12 : gi + 1 ≤ gb ∨ gb + 1 ≤ gi) (p14 : gi + 1 ≤ b ∨ b + 1 ≤ gi) (p24 : gb + 1 ≤ b ∨ b + 1 ≤ gb)
    (hMI : madeCells #[.int .i64 0, .int .i64 0, .slice none 0 0] (8 * 3) = MI) (hMB : madeCells #[.bool false, .slice none 0 0, .string ⟨#[]⟩] (16 * 3) = MB) :
    Dw w ((((W.setCell ⟨b, 0, none⟩ u).setCell ⟨b, 1, none⟩ v).setCell ⟨b, 2, none⟩ (.slice (some ⟨gi, 0, none⟩) 8 8)).setCell ⟨b, 3, none⟩ (.slice (some ⟨gb, 0, none⟩) 16 16)) b u v gi (.slice (some ⟨gb, 0, none⟩) 16 16) (fillI 0) := by
  have hoth : ∀ k, k ≠ b → ((((W.setCell ⟨b, 0, none⟩ u).setCell ⟨b, 1, none⟩ v).setCell ⟨b, 2, none⟩ (.slice (some ⟨gi, 0, none⟩) 8 8)).setCell ⟨b, 3, none⟩ (.slice (some ⟨gb, 0, none⟩) 16 16)).heap[k]? = W.heap[k]? := fun k hk =>
    ((((heap_setCell_other _ ⟨b, 3, none⟩ k _ (by simpa using hk)).trans (heap_setCell_other _ ⟨b, 2, none⟩ k _ (by simpa using hk))).trans (heap_setCell_other _ ⟨b, 1, none⟩ k _ (by simpa using hk))).trans (heap_setCell_other _ ⟨b, 0, none⟩ k _ (by simpa using hk)))
  have own1 : ∀ k, (u.ownBlock = some k ∨ v.ownBlock = some k) → lo ≤ k ∧ k < hi := fun k hk => ⟨hk.elim (fun e => (T0.a.lt k e).1) (fun e => (T0.b.lt k e).1), own0 k hk⟩
  have GI : GO KI W (fun k => k = gi) (.slice (some ⟨gi, 0, none⟩) 8 8) (List.replicate 8 zI3) (List.replicate 8 zI) := GO.of_at A1 (by rw [← hMI]; exact made_three _ _ _ _) (by unfold maxLen; decide) (zI_own _) rfl
  have GB : GO KB W (fun k => k = gb) (.slice (some ⟨gb, 0, none⟩) 16 16) (List.replicate 16 zB3) (List.replicate 16 zB) := GO.of_at A2 (by rw [← hMB]; exact made_three _ _ _ _) (by unfold maxLen; decide) (zB_own _) rfl
  have hT : Two W 0 u v newX newY := T0.base_le (Nat.zero_le _)
  refine ⟨(hoth _ (by omega)).trans hres, (((A4.set 0 u).set 1 v).set 2 _).set 3 _, ⟨fun k => lo ≤ k ∧ k < hi, _, _, _, _, ⟨hT.a.of_heap fun k hk => hoth k (by have := own1 k (.inl hk); omega), hT.b.of_heap fun k hk => hoth k (by have := own1 k (.inr hk); omega), hT.ne⟩, own1, GI.of_heap fun k hk _ => hoth k (by omega), GB.of_heap fun k hk _ => hoth k (by omega), fun k hk => ⟨fun e => by omega, fun e => by omega⟩, fun k hk e => by omega, fun k hk => ?_⟩, ?_, by omega⟩
  · rcases hk with hk | hk | hk
    · exact ⟨by omega, by omega⟩
    · exact ⟨by omega, by omega⟩
    · exact ⟨by omega, by omega⟩
  · exact (((hbel.setCell (by show w.heap.size ≤ b; omega) _).setCell (by show w.heap.size ≤ b; omega) _).setCell (by show w.heap.size ≤ b; omega) _).setCell (by show w.heap.size ≤ b; omega) _
/-- What the four makers of a new disk make. -/
def PostD (MI MB : Array Value) (i lo hi : Nat) (w : World) (v : Value) : Prop :=
  (i = 0 → ∃ u u', v = .agg #[u, u'] ∧ Two w lo u u' newX newY ∧ ∀ k, (u.ownBlock = some k ∨ u'.ownBlock = some k) → k < hi) ∧
  (i = 1 → v = .slice (some ⟨lo, 0, none⟩) 8 8 ∧ hi = lo + 1 ∧ AtC w lo 49 MI) ∧
  (i = 2 → v = .slice (some ⟨lo, 0, none⟩) 16 16 ∧ hi = lo + 1 ∧ AtC w lo 65 MB) ∧
  (i = 4 → v = .pointer (some ⟨lo, 0, none⟩) ∧ hi = lo + 1 ∧ AtC w lo 28 #[.slice none 0 0, .slice none 0 0, .slice none 0 0, .slice none 0 0])
theorem PostD.stable (MI MB : Array Value) (i lo hi : Nat) (w w' : World) (v : Value) (h : PostD MI MB i lo hi w v) (hb : Below w.heap.size w w') : PostD MI MB i lo hi w' v :=
  ⟨fun e => by obtain ⟨u, u', h1, h2, h3⟩ := h.1 e; exact ⟨u, u', h1, h2.below hb (Nat.le_refl _), h3⟩, fun e => by obtain ⟨h1, h2, h3⟩ := h.2.1 e; exact ⟨h1, h2, h3.over hb⟩,
    fun e => by obtain ⟨h1, h2, h3⟩ := h.2.2.1 e; exact ⟨h1, h2, h3.over hb⟩, fun e => by obtain ⟨h1, h2, h3⟩ := h.2.2.2 e; exact ⟨h1, h2, h3.over hb⟩⟩
/-- The disk is built of what the other three made. -/
def InvD (s : List Nat) (x : Nat → Value) : Prop := 3 ∈ s → (0 ∈ s ∧ 1 ∈ s ∧ 2 ∈ s) ∧ ∃ u u' g1 g2, x 0 = .agg #[u, u'] ∧ x 1 = .slice (some ⟨g1, 0, none⟩) 8 8 ∧ x 2 = .slice (some ⟨g2, 0, none⟩) 16 16 ∧ x 3 = .agg #[u, u', .slice (some ⟨g1, 0, none⟩) 8 8, .slice (some ⟨g2, 0, none⟩) 16 16]
theorem InvD.next {s : List Nat} {x : Nat → Value} (h : InvD s x) {j : Nat} {v : Value} (hj : ¬ j ∈ s) (h3 : j ≠ 3) : InvD (j :: s) (upd x j v) := fun hm => by
  rcases List.mem_cons.1 hm with e | hm
  · exact absurd e.symm h3
  · obtain ⟨⟨h0, h1, h2⟩, u, u', g1, g2, e0, e1, e2, e3⟩ := h hm
    have ne : ∀ i ∈ s, i ≠ j := fun i hi e => hj (e ▸ hi)
    exact ⟨⟨List.mem_cons_of_mem _ h0, List.mem_cons_of_mem _ h1, List.mem_cons_of_mem _ h2⟩, u, u', g1, g2, by rw [upd_ne _ _ _ _ (ne _ h0), e0], by rw [upd_ne _ _ _ _ (ne _ h1), e1], by rw [upd_ne _ _ _ _ (ne _ h2), e2], by rw [upd_ne _ _ _ _ (ne _ hm), e3]⟩
set_option maxRecDepth 100000 in
set_option maxHeartbeats 3200000 in
theorem implNew_disk (w : World) :
    Calls Try.prog 8 #[] w fun e w' => ∃ u v iv bv, e = .returned (.agg #[u, v, iv, bv]) ∧ DO w' (fun k => w.heap.size ≤ k) u v iv bv newX newY newIs newBs ∧ Below w.heap.size w w' := by
  have mi : ∀ w, (Instr.makeSlice 25 (.int .i64 8) (.int .i64 8)).run Try.prog w = .ok (.slice (some ⟨w.heap.size, 0, none⟩) 8 8) (w.alloc (.cells (madeCells #[.int .i64 0, .int .i64 0, .slice none 0 0] (8 * 3)) 49)) := make_ino 8 (by decide)
  have mb : ∀ w, (Instr.makeSlice 26 (.int .i64 16) (.int .i64 16)).run Try.prog w = .ok (.slice (some ⟨w.heap.size, 0, none⟩) 16 16) (w.alloc (.cells (madeCells #[.bool false, .slice none 0 0, .string ⟨#[]⟩] (16 * 3)) 65)) := make_blk 16 (by decide)
  obtain ⟨MI, hMI⟩ : ∃ M, madeCells #[.int .i64 0, .int .i64 0, .slice none 0 0] (8 * 3) = M := ⟨_, rfl⟩
  obtain ⟨MB, hMB⟩ : ∃ M, madeCells #[.bool false, .slice none 0 0, .string ⟨#[]⟩] (16 * 3) = M := ⟨_, rfl⟩
  rw [hMI] at mi
  rw [hMB] at mb
  have HMI := hide hMI
  have HMB := hide hMB
  clear hMI hMB
  go_enter Try.func8, Try.ntmps8
  go_wp2_with fail
  refine wp_region_makers (by kernel_rfl) [0, 1, 2, 3, 4] [5] (fun x => ⟨#[.pointer (some ⟨w.heap.size, 0, none⟩), x 4, undef, x 0, x 1, x 2, x 3, undef, undef, undef, undef, undef, undef, undef, undef, undef, undef, undef, undef, undef, undef, undef, undef, undef], []⟩) (fun _ => undef) rfl (PostD MI MB) (fun s x _ => InvD s x) (PostD.stable MI MB) (by kernel_rfl) (by kernel_rfl) rfl (fun h => by cases h) ?_ ?_
  · intro j hj s x iv W hr hns hp hI K hK
    simp only [List.mem_cons, List.not_mem_nil, or_false] at hj
    rcases hj with rfl | rfl | rfl | rfl | rfl
    · refine wpOp_step (o := _) rfl fun K' hK' => ?_
      have HK : Hid (∀ v W', Below W.heap.size W W' → PostD MI MB 0 W.heap.size W'.heap.size W' v → K' ⟨#[.pointer (some ⟨w.heap.size, 0, none⟩), x 4, undef, v, x 1, x 2, x 3, undef, undef, undef, undef, undef, undef, undef, undef, undef, undef, undef, undef, undef, undef, undef, undef, undef], []⟩ W') := fun v W' h1 h2 => hK' _ _ (hK v W' h1 h2 (hI.next hns (by decide)))
      clear hK hK' hr hp hI
      go_simp
      refine (implNew_anyB _).mono ?_
      rintro e w1 ⟨u, v, rfl, T1, B1⟩
      go_simp
      exact HK.out _ _ B1 ⟨fun _ => ⟨u, v, rfl, T1, fun k hk => hk.elim (fun e => (T1.a.lt k e).2) (fun e => (T1.b.lt k e).2)⟩, (fun e => by cases e), (fun e => by cases e), (fun e => by cases e)⟩
    · refine wpOp_step (o := _) rfl fun K' hK' => ?_
      have HK : Hid (∀ v W', Below W.heap.size W W' → PostD MI MB 1 W.heap.size W'.heap.size W' v → K' ⟨#[.pointer (some ⟨w.heap.size, 0, none⟩), x 4, undef, x 0, v, x 2, x 3, undef, undef, undef, undef, undef, undef, undef, undef, undef, undef, undef, undef, undef, undef, undef, undef, undef], []⟩ W') := fun v W' h1 h2 => hK' _ _ (hK v W' h1 h2 (hI.next hns (by decide)))
      clear hK hK' hr hp hI
      go_simp
      exact HK.out _ _ ((Below.refl _ W).alloc (Nat.le_refl _) _) ⟨(fun e => by cases e), fun _ => ⟨rfl, by simp, AtC.new W 49 MI⟩, (fun e => by cases e), (fun e => by cases e)⟩
    · refine wpOp_step (o := _) rfl fun K' hK' => ?_
      have HK : Hid (∀ v W', Below W.heap.size W W' → PostD MI MB 2 W.heap.size W'.heap.size W' v → K' ⟨#[.pointer (some ⟨w.heap.size, 0, none⟩), x 4, undef, x 0, x 1, v, x 3, undef, undef, undef, undef, undef, undef, undef, undef, undef, undef, undef, undef, undef, undef, undef, undef, undef], []⟩ W') := fun v W' h1 h2 => hK' _ _ (hK v W' h1 h2 (hI.next hns (by decide)))
      clear hK hK' hr hp hI
      go_simp
      exact HK.out _ _ ((Below.refl _ W).alloc (Nat.le_refl _) _) ⟨(fun e => by cases e), (fun e => by cases e), fun _ => ⟨rfl, by simp, AtC.new W 65 MB⟩, (fun e => by cases e)⟩
    · have d0 : 0 ∈ s := ready_dep hr rfl ⟨{ on := 0, ground := .data }, by simp, rfl, rfl⟩
      have d1 : 1 ∈ s := ready_dep hr rfl ⟨{ on := 1, ground := .data }, by simp, rfl, rfl⟩
      have d2 : 2 ∈ s := ready_dep hr rfl ⟨{ on := 2, ground := .data }, by simp, rfl, rfl⟩
      refine wpOp_step (o := _) rfl fun K' hK' => ?_
      have HK : Hid (∀ v W', Below W.heap.size W W' → PostD MI MB 3 W.heap.size W'.heap.size W' v → (∃ u u2 g1 g2, x 0 = .agg #[u, u2] ∧ x 1 = .slice (some ⟨g1, 0, none⟩) 8 8 ∧ x 2 = .slice (some ⟨g2, 0, none⟩) 16 16 ∧ v = .agg #[u, u2, .slice (some ⟨g1, 0, none⟩) 8 8, .slice (some ⟨g2, 0, none⟩) 16 16]) → K' ⟨#[.pointer (some ⟨w.heap.size, 0, none⟩), x 4, undef, x 0, x 1, x 2, v, undef, undef, undef, undef, undef, undef, undef, undef, undef, undef, undef, undef, undef, undef, undef, undef, undef], []⟩ W') := fun v W' h1 h2 h3 => hK' _ _ (hK v W' h1 h2 (fun _ => ⟨⟨List.mem_cons_of_mem _ d0, List.mem_cons_of_mem _ d1, List.mem_cons_of_mem _ d2⟩, by obtain ⟨u, u2, g1, g2, e0, e1, e2, e3⟩ := h3; exact ⟨u, u2, g1, g2, e0, e1, e2, e3⟩⟩))
      obtain ⟨u, u2, e0, -, -⟩ := (hp.post 0 d0).1 rfl
      obtain ⟨e1, -, -⟩ := (hp.post 1 d1).2.1 rfl
      obtain ⟨e2, -, -⟩ := (hp.post 2 d2).2.2.1 rfl
      clear hK hK' hr hp hI
      have HE := hide (And.intro e0 (And.intro e1 e2))
      simp only [e0, e1, e2]
      simp only [e0, e1, e2] at HK
      clear e0 e1 e2
      go_simp
      exact HK.out _ _ (Below.refl _ W) ⟨(fun e => by cases e), (fun e => by cases e), (fun e => by cases e), (fun e => by cases e)⟩ ⟨u, u2, _, _, rfl, rfl, rfl, rfl⟩
    · refine wpOp_step (o := _) rfl fun K' hK' => ?_
      have HK : Hid (∀ v W', Below W.heap.size W W' → PostD MI MB 4 W.heap.size W'.heap.size W' v → K' ⟨#[.pointer (some ⟨w.heap.size, 0, none⟩), v, undef, x 0, x 1, x 2, x 3, undef, undef, undef, undef, undef, undef, undef, undef, undef, undef, undef, undef, undef, undef, undef, undef, undef], []⟩ W') := fun v W' h1 h2 => hK' _ _ (hK v W' h1 h2 (hI.next hns (by decide)))
      clear hK hK' hr hp hI
      go_simp
      exact HK.out _ _ ((Below.refl _ W).alloc (Nat.le_refl _) _) ⟨(fun e => by cases e), (fun e => by cases e), (fun e => by cases e), fun _ => ⟨rfl, by simp, AtC.new W 28 _⟩⟩
  · intro s x iv W hs hp hI
    obtain ⟨-, u, u2, g1, g2, e0, e1, e2, e3⟩ := hI (hs 3 (by decide))
    obtain ⟨v1, v2, f0, T0, own0⟩ := (hp.post 0 (by decide)).1 rfl
    obtain ⟨f1, z1, A1⟩ := (hp.post 1 (by decide)).2.1 rfl
    obtain ⟨f2, z2, A2⟩ := (hp.post 2 (by decide)).2.2.1 rfl
    obtain ⟨f4, z4, A4⟩ := (hp.post 4 (by decide)).2.2.2 rfl
    rw [e0] at f0
    rw [e1] at f1
    rw [e2] at f2
    simp only [Value.agg.injEq, Array.mk.injEq, List.cons.injEq, and_true] at f0
    simp only [Value.slice.injEq, Option.some.injEq, Addr.mk.injEq, and_true] at f1 f2
    obtain ⟨rfl, rfl⟩ := f0
    subst f1 f2
    have l0 := hp.lo 0 (by decide)
    have l1 := hp.lo 1 (by decide)
    have l2 := hp.lo 2 (by decide)
    have l4 := hp.lo 4 (by decide)
    have p01 := hp.apart 0 (by decide) 1 (by decide) (by decide)
    have p02 := hp.apart 0 (by decide) 2 (by decide) (by decide)
    have p04 := hp.apart 0 (by decide) 4 (by decide) (by decide)
    have p12 := hp.apart 1 (by decide) 2 (by decide) (by decide)
    have p14 := hp.apart 1 (by decide) 4 (by decide) (by decide)
    have p24 := hp.apart 2 (by decide) 4 (by decide) (by decide)
    have hbel := hp.bel
    obtain ⟨a1, c1, a2, c2, rfl, rfl⟩ := T0.form
    have zsz : (w.alloc (.cells #[.slice none 0 0, .slice none 0 0, .slice none 0 0, .slice none 0 0] 28)).drew.heap.size = w.heap.size + 1 := by simp [World.drew]
    rw [zsz] at l0 l1 l2 l4 hbel
    rw [z1] at p01 p12 p14
    rw [z2] at p02 p12 p24
    rw [z4] at p04 p14 p24
    have hres : AtC W w.heap.size 28 zD := (AtC.new w 28 zD).drew.below hbel (by omega)
    have hB0 : Below w.heap.size w W := ((Below.refl _ w).alloc (Nat.le_refl _) _).drew.trans (hbel.mono (by omega))
    have hD := dw_start T0 own0 A1 A2 A4 hres hB0 l0.1 l1.1 l2.1 l4.1 p01 p02 p04 p12 p14 p24 HMI.out HMB.out
    simp only [e0, e1, e2, e3, f4]
    clear e0 e1 e2 e3 f4 hp hI hs l0 l1 l2 p01 p02 p04 p12 p14 p24 z1 z2 z4 A1 A2 T0 own0 hbel hB0 hres mi mb zsz
    generalize (iv 4).1 = b at *
    generalize (iv 1).1 = gi at *
    generalize (iv 2).1 = gb at *
    have c0 : W.cell? ⟨b, 0, none⟩ = some (.slice none 0 0) := A4.cell 0
    have c1' : W.cell? ⟨b, 1, none⟩ = some (.slice none 0 0) := A4.cell 1
    have c2' : W.cell? ⟨b, 2, none⟩ = some (.slice none 0 0) := A4.cell 2
    have c3 : W.cell? ⟨b, 3, none⟩ = some (.slice none 0 0) := A4.cell 3
    have z0 := A4.frozen 0
    have z1 := A4.frozen 1
    have z2 := A4.frozen 2
    have z3 := A4.frozen 3
    obtain ⟨W1, hW1⟩ : ∃ W1, (((W.setCell ⟨b, 0, none⟩ (.slice a1 newX.length c1)).setCell ⟨b, 1, none⟩ (.slice a2 newY.length c2)).setCell ⟨b, 2, none⟩ (.slice (some ⟨gi, 0, none⟩) 8 8)).setCell ⟨b, 3, none⟩ (.slice (some ⟨gb, 0, none⟩) 16 16) = W1 := ⟨_, rfl⟩
    rw [hW1] at hD
    have q2 : W1.cell? ⟨b, 2, none⟩ = some (.slice (some ⟨gi, 0, none⟩) 8 8) := hD.box.cell 2
    have HD := hide hD
    have hbl := hD.hb
    clear A4 hD
    go_wp2_with fail
    rw [List.filterMap_nil]
    clear c0 c1' c2' c3 z0 z1 z2 z3 hW1 l4
    go_wp2_with fail
    go_loopw [2, 10] (fun _ i wr => ∃ j : Nat, j ≤ 8 ∧ i = .int .i64 j ∧ Hid (Dw w wr b (.slice a1 newX.length c1) (.slice a2 newY.length c2) gi (.slice (some ⟨gb, 0, none⟩) 16 16) (fillI j))) (fun _ i _ => 8 - (intOf i).toNat)
    case atStart => exact ⟨0, Nat.zero_le _, rfl, HD.out⟩
    case round =>
      obtain ⟨j, hj, rfl, HR⟩ := hrel
      have q2 : wr.cell? ⟨b, 2, none⟩ = some (.slice (some ⟨gi, 0, none⟩) 8 8) := HR.out.box.cell 2
      by_cases hlt : j < 8
      · have j0 : (0 : Int) ≤ (j : Int) := by omega
        have j1 : (j : Int) < 8 := by omega
        have hjl : j < (fillI j).length := by rw [fillI_length j hj]; exact hlt
        have HJ := hide hjl
        clear hjl
        go_wp2_with fail
        go_region_held3 (fun w' => w'.cell? ⟨b, 2, none⟩ = some (.slice (some ⟨gi, 0, none⟩) 8 8)) (first | exact HR.out.drew.box.cell 2 | exact (HR.out.drew.below B6).box.cell 2 | exact (HR.out.drew.put j HJ.out _ _ _ B6 O6).box.cell 2) ((go_at_call 23; refine (implNew_anyI _ _).mono ?_; rintro e w6 ⟨p, rfl, O6, B6⟩; obtain ⟨⟨x1, x2, x3, m1, m2, m3, -, -, -⟩, fz, -⟩ := (HR.out.drew.below B6).dsk.atI rfl j HJ.out; have n0 := fz (j * 3); have n1 := fz (j * 3 + 1); have n2 := fz (j * 3 + 2); clear fz; obtain ⟨s1, t1, rfl⟩ := O6.form2))
        have hp6 := HR.out.drew.put j HJ.out 0 (newLinks 0) (.slice s1 2 t1) B6 O6
        rw [show ((0 : Int), newLinks 0, [(0 : Int), 0]) = noI from rfl, fillI_set j hlt] at hp6
        have H6 := hide hp6
        clear hp6 B6 O6 m1 m2 m3 n0 n1 n2
        go_wp2
        go_roundw
        case rel => exact ⟨j + 1, by omega, by go_num, H6.out⟩
        case measure => simp [intOf]; omega
      · have hj8 : j = 8 := by omega
        subst hj8
        have hjl : 0 < (fillI 8).length := by decide
        have HJ := hide hjl
        clear hjl
        go_wp2_with fail
        go_region_held3 (fun w' => w'.cell? ⟨b, 2, none⟩ = some (.slice (some ⟨gi, 0, none⟩) 8 8)) (first | exact HR.out.drew.box.cell 2 | exact (HR.out.drew.below B6).box.cell 2 | exact (HR.out.drew.put 0 HJ.out _ _ _ B6 O6).box.cell 2) ((go_at_call 23; refine (implNew_anyI _ _).mono ?_; rintro e w6 ⟨p, rfl, O6, B6⟩; obtain ⟨⟨x1, x2, x3, m1, m2, m3, -, -, -⟩, fz, -⟩ := (HR.out.drew.below B6).dsk.atI rfl 0 HJ.out; have n0 := fz (0 * 3); have n1 := fz (0 * 3 + 1); have n2 := fz (0 * 3 + 2); clear fz; obtain ⟨s1, t1, rfl⟩ := O6.form2; simp only [Nat.zero_mul, Nat.zero_add] at m1 m2 m3 n0 n1 n2))
        have hp6 := HR.out.drew.put 0 HJ.out 2 (newLinks 2) (.slice s1 2 t1) B6 O6
        rw [show ((2 : Int), newLinks 2, [(0 : Int), 0]) = (2, 1, [0, 0]) from rfl, fillI_end] at hp6
        simp only [Nat.zero_mul, Nat.zero_add] at hp6
        obtain ⟨W6, hW6⟩ : ∃ W6, ((w6.setCell ⟨gi, 0, none⟩ (.int .i64 2)).setCell ⟨gi, 1, none⟩ (.int .i64 (newLinks 2))).setCell ⟨gi, 2, none⟩ (.slice s1 2 t1) = W6 := ⟨_, rfl⟩
        rw [hW6] at hp6 ⊢
        have H6 := hide hp6
        have y0 : W6.cell? ⟨b, 0, none⟩ = some (.slice a1 newX.length c1) := hp6.box.cell 0
        have y1 : W6.cell? ⟨b, 1, none⟩ = some (.slice a2 newY.length c2) := hp6.box.cell 1
        have y2 : W6.cell? ⟨b, 2, none⟩ = some (.slice (some ⟨gi, 0, none⟩) 8 8) := hp6.box.cell 2
        have y3 : W6.cell? ⟨b, 3, none⟩ = some (.slice (some ⟨gb, 0, none⟩) 16 16) := hp6.box.cell 3
        have r0 : W6.cell? ⟨w.heap.size, 0, none⟩ = some (.slice none 0 0) := hp6.res.cell 0
        have r1 : W6.cell? ⟨w.heap.size, 1, none⟩ = some (.slice none 0 0) := hp6.res.cell 1
        have r2 : W6.cell? ⟨w.heap.size, 2, none⟩ = some (.slice none 0 0) := hp6.res.cell 2
        have r3 : W6.cell? ⟨w.heap.size, 3, none⟩ = some (.slice none 0 0) := hp6.res.cell 3
        have v0 := hp6.res.frozen 0
        have v1 := hp6.res.frozen 1
        have v2 := hp6.res.frozen 2
        have v3 := hp6.res.frozen 3
        have hlt := hp6.res.lt
        clear hp6 hW6 B6 O6 m1 m2 m3 n0 n1 n2 HR HJ
        go_wp2
        refine bodyPost_ret (v := .agg #[.slice a1 newX.length c1, .slice a2 newY.length c2, .slice (some ⟨gi, 0, none⟩) 8 8, .slice (some ⟨gb, 0, none⟩) 16 16]) (by simp [results, go_sem, r0, r1, r2, r3]) rfl ⟨_, _, _, _, rfl, ?_, ?_⟩
        · exact (H6.out.dsk.of_heap fun k hk _ => ((((heap_setCell_other _ ⟨w.heap.size, 3, none⟩ k _ (by show k ≠ w.heap.size; omega)).trans (heap_setCell_other _ ⟨w.heap.size, 2, none⟩ k _ (by show k ≠ w.heap.size; omega))).trans (heap_setCell_other _ ⟨w.heap.size, 1, none⟩ k _ (by show k ≠ w.heap.size; omega))).trans (heap_setCell_other _ ⟨w.heap.size, 0, none⟩ k _ (by show k ≠ w.heap.size; omega)))).mono fun k hk => by omega
        · exact (((H6.out.bel.setCell (Nat.le_refl _) _).setCell (Nat.le_refl _) _).setCell (Nat.le_refl _) _).setCell (Nat.le_refl _) _
end Go.Proofs.Ytajollmmpdkhbaa
