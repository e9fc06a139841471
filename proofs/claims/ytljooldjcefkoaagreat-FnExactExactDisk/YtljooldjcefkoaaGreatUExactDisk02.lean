/- Texts of the proof, bundled: Er, Es. -/
import Derived.Test.YtljooldjcefkoaaGreatUExactDisk01
import Derived.Test.YtljooldjcefkoaaGreatU02
import Derived.Test.YtljooldjcefkoaaGreatU18
import Derived.Test.YtljooldjcefkoaaGreatU15
/- impl.reachedBits by its contract. -/
namespace Go.Proofs.YtljooldjcefkoaaGreat.Kit
open Go.RowKit
/-- A slice that was just made. -/
def MkMs (T : TypeId) (Z : Array Value) (n : Nat) : Mk := .val [] (fun lo _ w v => v = .slice (some ⟨lo, 0, none⟩) n n ∧ AtC w lo T Z) (fun _ _ _ _ _ h hb => ⟨h.1, h.2.over hb⟩)
/-- A struct of two. -/
def MkB2 : Mk := ⟨[0, 1], fun _ _ _ v x => v = .agg #[x 0, x 1], fun _ _ _ _ _ _ h _ => h, fun _ _ _ _ x x' e h => by rw [← e 0 (by decide), ← e 1 (by decide)]; exact h⟩
/-- Flags of those that were met. -/
structure HadN (m : Nat) (l : List Int) (k : Nat) (h : List Bool) : Prop where
  n : h.length = m
  f : ∀ q : Nat, q < m → h.getD q false = decide (((q : Int) + 1) ∈ l.take k)
theorem HadN.begin (n : Nat) (l : List Int) : HadN n l 0 (List.replicate n false) := ⟨List.length_replicate, fun q _ => by
  rw [show l.take 0 = [] from rfl, List.getD_eq_getElem?_getD, List.getElem?_replicate]
  simp only [List.not_mem_nil, decide_false]
  split <;> rfl⟩
theorem HadN.next {n : Nat} {l : List Int} {k q : Nat} {h : List Bool} (H : HadN n l k h) (hk : k < l.length) (he : l[k] = (q : Int) + 1) (hq : q < n) : HadN n l (k + 1) (h.set q true) := by
  refine ⟨by rw [List.length_set]; exact H.n, fun r hr => ?_⟩
  rw [getD_set (by rw [H.n]; exact hq), List.take_succ_eq_append_getElem hk, he]
  by_cases e : r = q
  · subst e; rw [if_pos rfl]; simp
  · rw [if_neg e, H.f r hr]
    have : ¬ ((r : Int) + 1 = (q : Int) + 1) := by omega
    simp [this]
/-- Bits under way. -/
structure RB (w wr : World) (D : Array Value) (pb gB gI : Nat) (hB hI : List Bool) : Prop where
  b : Below w.heap.size w wr
  d : AtC wr w.heap.size 35 D
  r : AtC wr (w.heap.size + 1) 31 #[.slice none 0 0, .slice none 0 0]
  p : AtC wr pb 31 #[.slice (some ⟨gB, 0, none⟩) 16 16, .slice (some ⟨gI, 0, none⟩) 8 8]
  B : AtC wr gB 4 (hA hB)
  I : AtC wr gI 4 (hA hI)
/-- How these lie. -/
structure RP (w : World) (pb gB gI : Nat) : Prop where
  p : w.heap.size + 1 < pb
  B : w.heap.size + 1 < gB
  I : w.heap.size + 1 < gI
  pB : pb ≠ gB
  pI : pb ≠ gI
  BI : gB ≠ gI
theorem RB.below {w wr wr' : World} {D : Array Value} {pb gB gI : Nat} {hB hI : List Bool} (h : RB w wr D pb gB gI hB hI) (hb : Below wr.heap.size wr wr') : RB w wr' D pb gB gI hB hI := ⟨h.b.trans (hb.mono h.b.size), h.d.over hb, h.r.over hb, h.p.over hb, h.B.over hb, h.I.over hb⟩
theorem RB.setI {w wr : World} {D : Array Value} {pb gB gI : Nat} {hB hI : List Bool} (h : RB w wr D pb gB gI hB hI) (P : RP w pb gB gI) (k : Nat) : RB w (wr.setCell ⟨gI, k, none⟩ (.bool true)) D pb gB gI hB (hI.set k true) := by
  have h1 := P.I
  exact ⟨h.b.setCell (p := ⟨gI, k, none⟩) (by show w.heap.size ≤ gI; omega) _, h.d.other (by omega) _, h.r.other (by omega) _, h.p.other P.pI _, h.B.other P.BI _, by rw [← hA_set]; exact h.I.set k _⟩
theorem RB.setB {w wr : World} {D : Array Value} {pb gB gI : Nat} {hB hI : List Bool} (h : RB w wr D pb gB gI hB hI) (P : RP w pb gB gI) (k : Nat) : RB w (wr.setCell ⟨gB, k, none⟩ (.bool true)) D pb gB gI (hB.set k true) hI := by
  have h1 := P.B
  exact ⟨h.b.setCell (p := ⟨gB, k, none⟩) (by show w.heap.size ≤ gB; omega) _, h.d.other (by omega) _, h.r.other (by omega) _, h.p.other P.pB _, by rw [← hA_set]; exact h.B.set k _, h.I.other (fun e => P.BI e.symm) _⟩
theorem hA_rfl {w : World} {g n : Nat} {h : List Bool} (ha : AtC w g 4 (hA h)) (hn : h.length = n) : RFl w (.slice (some ⟨g, 0, none⟩) n n) h := by
  subst hn
  refine ⟨_, _, rfl, fun j hj => ⟨g, 0, rfl, ha.lt, ?_⟩⟩
  rw [Nat.zero_add, ha.cell j, hA_get h j hj]
  simp [hj]
theorem atC_size {w : World} {a b : Nat} {S T : TypeId} {xs ys : Array Value} (h : AtC w a S xs) (h' : AtC w b T ys) (hn : xs.size ≠ ys.size) : a ≠ b := fun e => by
  subst e
  have := h.symm.trans h'
  simp only [Option.some.injEq, Obj.cells.injEq] at this
  exact hn (by rw [this.1])
end Go.Proofs.YtljooldjcefkoaaGreat.Kit
namespace Go.Proofs.YtljooldjcefkoaaGreat
open Go.RowKit Kit
/-- The flags that are told. -/
def fI (is : List Ino) (bs : List Blk) : List Bool := (List.range 8).map fun j : Nat => (reachL is bs).contains ((j : Int) + 1)
def fB (is : List Ino) (bs : List Blk) : List Bool := (List.range 16).map fun p : Nat => (hadL is bs).contains ((p : Int) + 1)
theorem had_all {n : Nat} {l : List Int} {k : Nat} {h : List Bool} (H : HadN n l k h) (hk : l.length ≤ k) : h = (List.range n).map fun q : Nat => l.contains ((q : Int) + 1) := by
  apply List.ext_getElem (by rw [H.n]; simp)
  intro q h1 h2
  have hq : q < n := by rw [← H.n]; exact h1
  have := H.f q hq
  rw [List.take_of_length_le hk, getD_at false h1] at this
  rw [this]
  simp
set_option maxRecDepth 100000 in
set_option maxHeartbeats 6400000 in
theorem rBits_any (dx dy iv bv : Value) (xs ys : List Bool) (is : List Ino) (bs : List Blk) (w : World) (h : DR w dx dy iv bv xs ys is bs) (hX : RX xs ys is bs) :
    Calls Tryz.prog 39 #[.agg #[dx, dy, iv, bv]] w fun e w' => ∃ u v, e = .returned (.agg #[u, v]) ∧ RFl w' u (fB is bs) ∧ RFl w' v (fI is bs) ∧ Below w.heap.size w w' := by
  obtain ⟨a1, c1, a2, c2, a3, c3, a4, c4, rfl, rfl, rfl, rfl⟩ := h.form
  have CR := hide (fun (W : World) (hb : Below w.heap.size w W) => implReach_any (.slice a1 xs.length c1) (.slice a2 ys.length c2) (.slice a3 is.length c3) (.slice a4 bs.length c4) xs ys is bs W (h.below hb (Nat.le_refl _)) hX.r)
  have CP := hide (fun (W : World) (hb : Below w.heap.size w W) => rPtrs_any (.slice a1 xs.length c1) (.slice a2 ys.length c2) (.slice a3 is.length c3) (.slice a4 bs.length c4) xs ys is bs W (h.below hb (Nat.le_refl _)) hX.r)
  have HR8 := hide (reachL_len is bs)
  have HP16 : Hid ((ptrL is (reachL is bs)).length ≤ 16) := by show _ ≤ _; have h1 := ptrL_len hX.r (reachL is bs); have h2 := reachL_len is bs; omega
  obtain ⟨W0, hW0⟩ : ∃ W, ((w.alloc (.cells #[.slice a1 xs.length c1, .slice a2 ys.length c2, .slice a3 is.length c3, .slice a4 bs.length c4] 35)).alloc (.cells #[.slice none 0 0, .slice none 0 0] 31)) = W := ⟨_, rfl⟩
  have HA : Hid (AtC W0 w.heap.size 35 #[.slice a1 xs.length c1, .slice a2 ys.length c2, .slice a3 is.length c3, .slice a4 bs.length c4] ∧ AtC W0 (w.heap.size + 1) 31 #[.slice none 0 0, .slice none 0 0] ∧ Below w.heap.size w W0 ∧ W0.heap.size = w.heap.size + 2) := by
    rw [← hW0]
    have a := AtC.new (w.alloc (.cells #[.slice a1 xs.length c1, .slice a2 ys.length c2, .slice a3 is.length c3, .slice a4 bs.length c4] 35)) 31 #[.slice none 0 0, .slice none 0 0]
    rw [World.size_alloc] at a
    exact ⟨(AtC.new w 35 _).alloc _, a, ((Below.refl _ w).alloc (Nat.le_refl _) _).alloc (by simp) _, by simp⟩
  have hm8 : ∀ W : World, (Instr.makeSlice 22 (.int .i64 8) (.int .i64 8)).run Tryz.prog W = .ok (.slice (some ⟨W.heap.size, 0, none⟩) 8 8) (W.alloc (.cells (hA (List.replicate 8 false)) 4)) := make8
  have hm16 : ∀ W : World, (Instr.makeSlice 22 (.int .i64 16) (.int .i64 16)).run Tryz.prog W = .ok (.slice (some ⟨W.heap.size, 0, none⟩) 16 16) (W.alloc (.cells (hA (List.replicate 16 false)) 4)) := make16
  clear h hX
  go_enter Tryz.func39, Tryz.ntmps39
  go_upto_region 1 with fail
  clear hW0
  go_cut [3] from 8 to 37 (fun pv wx => ∃ pb gB gI : Nat, pv = .pointer (some ⟨pb, 0, none⟩) ∧ RP w pb gB gI ∧ RB w wx #[.slice a1 xs.length c1, .slice a2 ys.length c2, .slice a3 is.length c3, .slice a4 bs.length c4] pb gB gI (List.replicate 16 false) (List.replicate 8 false))
  case first =>
    refine wp_region_alt (by kernel_rfl) [0, 1, 2, 3] [4] [] (fun i => match i with | 0 => MkMs 4 (hA (List.replicate 16 false)) 16 | 1 => MkMs 4 (hA (List.replicate 8 false)) 8 | 2 => MkB2 | 3 => MkW 31 #[.slice none 0 0, .slice none 0 0] | _ => .triv) (fun x => ⟨#[Value.agg #[Value.slice a1 xs.length c1, Value.slice a2 ys.length c2, Value.slice a3 is.length c3, Value.slice a4 bs.length c4], Value.pointer (some { block := w.heap.size, off := 0 }), Value.pointer (some { block := w.heap.size + 1, off := 0 }), x 3, undef, undef, undef, undef, x 0, x 1, x 2, undef, undef, undef, undef, undef, undef, undef, undef, undef, undef, undef, undef, undef, undef, undef, undef, undef, undef, undef, undef, undef, undef, undef, undef, undef, undef, undef, undef], []⟩) (fun i => match i with | 0 => undef | 1 => undef | 2 => undef | 3 => undef | _ => undef) rfl (makersOk2_of (by kernel_rfl) (by kernel_rfl)) (by kernel_rfl) (by kernel_rfl) (by kernel_rfl) rfl ?_ ?_ (by intro q hq; cases hq)
    · intro jo hj so x iw W hd hp K hK
      simp only [List.mem_cons, List.not_mem_nil, or_false] at hj
      rcases hj with rfl | rfl | rfl | rfl
      · refine wpOp_step (o := _) rfl fun K' hK' => ?_
        have HK : Hid (∀ v W', Below W.heap.size W W' → (MkMs 4 (hA (List.replicate 16 false)) 16).P W.heap.size W'.heap.size W' v (upd x 0 v) → K' ⟨#[Value.agg #[Value.slice a1 xs.length c1, Value.slice a2 ys.length c2, Value.slice a3 is.length c3, Value.slice a4 bs.length c4], Value.pointer (some { block := w.heap.size, off := 0 }), Value.pointer (some { block := w.heap.size + 1, off := 0 }), x 3, undef, undef, undef, undef, v, x 1, x 2, undef, undef, undef, undef, undef, undef, undef, undef, undef, undef, undef, undef, undef, undef, undef, undef, undef, undef, undef, undef, undef, undef, undef, undef, undef, undef, undef, undef], []⟩ W') := fun v W' h1 h2 => hK' _ _ (hK v W' h1 h2)
        clear hK hK' hp hd
        go_simp
        exact HK.out _ _ ((Below.refl _ W).alloc (Nat.le_refl _) _) ⟨rfl, AtC.new W 4 _⟩
      · refine wpOp_step (o := _) rfl fun K' hK' => ?_
        have HK : Hid (∀ v W', Below W.heap.size W W' → (MkMs 4 (hA (List.replicate 8 false)) 8).P W.heap.size W'.heap.size W' v (upd x 1 v) → K' ⟨#[Value.agg #[Value.slice a1 xs.length c1, Value.slice a2 ys.length c2, Value.slice a3 is.length c3, Value.slice a4 bs.length c4], Value.pointer (some { block := w.heap.size, off := 0 }), Value.pointer (some { block := w.heap.size + 1, off := 0 }), x 3, undef, undef, undef, undef, x 0, v, x 2, undef, undef, undef, undef, undef, undef, undef, undef, undef, undef, undef, undef, undef, undef, undef, undef, undef, undef, undef, undef, undef, undef, undef, undef, undef, undef, undef, undef], []⟩ W') := fun v W' h1 h2 => hK' _ _ (hK v W' h1 h2)
        clear hK hK' hp hd
        go_simp
        exact HK.out _ _ ((Below.refl _ W).alloc (Nat.le_refl _) _) ⟨rfl, AtC.new W 4 _⟩
      · refine wpOp_step (o := _) rfl fun K' hK' => ?_
        have HK : Hid (∀ v W', Below W.heap.size W W' → (MkB2).P W.heap.size W'.heap.size W' v (upd x 2 v) → K' ⟨#[Value.agg #[Value.slice a1 xs.length c1, Value.slice a2 ys.length c2, Value.slice a3 is.length c3, Value.slice a4 bs.length c4], Value.pointer (some { block := w.heap.size, off := 0 }), Value.pointer (some { block := w.heap.size + 1, off := 0 }), x 3, undef, undef, undef, undef, x 0, x 1, v, undef, undef, undef, undef, undef, undef, undef, undef, undef, undef, undef, undef, undef, undef, undef, undef, undef, undef, undef, undef, undef, undef, undef, undef, undef, undef, undef, undef], []⟩ W') := fun v W' h1 h2 => hK' _ _ (hK v W' h1 h2)
        have e0 : ∃ g, x 0 = .slice (some ⟨g, 0, none⟩) 16 16 := ⟨_, (hp.post 0 (hd 0 (show 0 ∈ [0, 1] from by decide))).1⟩
        have e1 : ∃ g, x 1 = .slice (some ⟨g, 0, none⟩) 8 8 := ⟨_, (hp.post 1 (hd 1 (show 1 ∈ [0, 1] from by decide))).1⟩
        clear hK hK' hp hd
        obtain ⟨ga, e0⟩ := e0
        obtain ⟨gb, e1⟩ := e1
        have HE : Hid (x 0 = .slice (some ⟨ga, 0, none⟩) 16 16 ∧ x 1 = .slice (some ⟨gb, 0, none⟩) 8 8) := ⟨e0, e1⟩
        simp only [e0, e1] at HK ⊢
        clear e0 e1
        go_simp
        refine HK.out _ _ (Below.refl _ _) ?_
        show _ = Value.agg #[_, _]
        rw [show upd x 2 _ 0 = x 0 from rfl, show upd x 2 _ 1 = x 1 from rfl, HE.out.1, HE.out.2]
      · refine wpOp_step (o := _) rfl fun K' hK' => ?_
        have HK : Hid (∀ v W', Below W.heap.size W W' → (MkW 31 #[.slice none 0 0, .slice none 0 0]).P W.heap.size W'.heap.size W' v (upd x 3 v) → K' ⟨#[Value.agg #[Value.slice a1 xs.length c1, Value.slice a2 ys.length c2, Value.slice a3 is.length c3, Value.slice a4 bs.length c4], Value.pointer (some { block := w.heap.size, off := 0 }), Value.pointer (some { block := w.heap.size + 1, off := 0 }), v, undef, undef, undef, undef, x 0, x 1, x 2, undef, undef, undef, undef, undef, undef, undef, undef, undef, undef, undef, undef, undef, undef, undef, undef, undef, undef, undef, undef, undef, undef, undef, undef, undef, undef, undef, undef], []⟩ W') := fun v W' h1 h2 => hK' _ _ (hK v W' h1 h2)
        clear hK hK' hp hd
        go_simp
        exact HK.out _ _ ((Below.refl _ W).alloc (Nat.le_refl _) _) ⟨rfl, by simp, AtC.new W 31 _⟩
    · intro x iw W hp
      obtain ⟨e0, A0⟩ := hp.post 0 (by decide)
      obtain ⟨e1, A1⟩ := hp.post 1 (by decide)
      have e2 : x 2 = .agg #[x 0, x 1] := hp.post 2 (by decide)
      obtain ⟨e3, z3, A3⟩ := hp.post 3 (by decide)
      have l0 := (hp.lo 0 (by decide)).1
      have l1 := (hp.lo 1 (by decide)).1
      have l3 := (hp.lo 3 (by decide)).1
      have bel := of_drew hp.bel
      rw [e0, e1] at e2
      have hsz : w.heap.size + 1 < W0.drew.heap.size := by have := HA.out.2.2.2; show w.heap.size + 1 < W0.heap.size; omega
      have HFI : Hid (RP w (iw 3).1 (iw 0).1 (iw 1).1 ∧ AtC W (iw 0).1 4 (hA (List.replicate 16 false)) ∧ AtC W (iw 1).1 4 (hA (List.replicate 8 false)) ∧ AtC W (iw 3).1 31 #[.slice none 0 0, .slice none 0 0] ∧ Below W0.heap.size W0 W) := ⟨⟨by omega, by omega, by omega, atC_size A3 A0 (by decide), atC_size A3 A1 (by decide), atC_size A0 A1 (by decide)⟩, A0, A1, A3, bel⟩
      have y0 : W.cell? ⟨(iw 3).1, 0, none⟩ = some (.slice none 0 0) := A3.cell 0
      have y1 : W.cell? ⟨(iw 3).1, 1, none⟩ = some (.slice none 0 0) := A3.cell 1
      have f0 := A3.frozen 0
      have f1 := A3.frozen 1
      clear hp A0 A1 A3 z3 l0 l1 l3 bel hsz
      simp only [e0, e1, e2, e3] at *
      generalize (iw 3).1 = pb at *
      generalize (iw 0).1 = gB at *
      generalize (iw 1).1 = gI at *
      go_wp2_with fail
      try rw [List.filterMap_nil]
      try go_wp2_with fail
      go_meet
      obtain ⟨P, AB, AI, AP, bb⟩ := HFI.out
      have hP1 := P.p
      have b2 := HA.out.2.2.1.trans (bb.mono HA.out.2.2.1.size)
      exact ⟨pb, gB, gI, rfl, P, (b2.setCell (p := ⟨pb, 0, none⟩) (by show w.heap.size ≤ pb; omega) _).setCell (p := ⟨pb, 1, none⟩) (by show w.heap.size ≤ pb; omega) _, ((HA.out.1.over bb).other (by omega) _).other (by omega) _, ((HA.out.2.1.over bb).other (by omega) _).other (by omega) _, (AP.set 0 _).set 1 _, (AB.other (fun e => P.pB e.symm) _).other (fun e => P.pB e.symm) _, (AI.other (fun e => P.pI e.symm) _).other (fun e => P.pI e.symm) _⟩
  case rest =>
    obtain ⟨pb, gB, gI, rfl, hP, hRB⟩ := hcut
    have HP := hide hP
    have HR0 := hide hRB
    clear hP hRB hm8 hm16 HA
    have z0 : wc.cell? ⟨w.heap.size, 0, none⟩ = some (.slice a1 xs.length c1) := HR0.out.d.cell 0
    have z1 : wc.cell? ⟨w.heap.size, 1, none⟩ = some (.slice a2 ys.length c2) := HR0.out.d.cell 1
    have z2 : wc.cell? ⟨w.heap.size, 2, none⟩ = some (.slice a3 is.length c3) := HR0.out.d.cell 2
    have z3 : wc.cell? ⟨w.heap.size, 3, none⟩ = some (.slice a4 bs.length c4) := HR0.out.d.cell 3
    have CR1 := hide (CR.out wc HR0.out.b)
    go_wp2_with fail
    refine CR1.out.mono ?_
    rintro e w1 ⟨rv, rfl, R1, B1⟩
    obtain ⟨ra, rc, rfl, -⟩ := R1.form
    rw [ic_length] at R1 ⊢
    have HR1 : Hid (RB w w1 #[.slice a1 xs.length c1, .slice a2 ys.length c2, .slice a3 is.length c3, .slice a4 bs.length c4] pb gB gI (List.replicate 16 false) (List.replicate 8 false)) := HR0.out.below B1
    have HRI : Hid (∀ wr, Chg (fun k => k = gI) w1 wr → RInts wr (.slice ra (reachL is bs).length rc) (reachL is bs)) := fun wr c => (R1.of_heap fun k hk => c.block k (R1.lt k hk).2 (fun e => by have h1 := (R1.lt k hk).1; have h2 := HR0.out.I.lt; omega)).rints
    clear R1 B1 CR1 CR z0 z1 z2 z3 HR0
    have HRG : Hid (∀ i ∈ reachL is bs, 1 ≤ i ∧ i ≤ 8) := fun i hi => reach8 hi
    have HFI : Hid (∀ k h, HadN 8 (reachL is bs) k h → (reachL is bs).length ≤ k → h = fI is bs) := fun k h H hk => had_all H hk
    obtain ⟨RL, hRL⟩ : ∃ l, reachL is bs = l := ⟨_, rfl⟩
    rw [hRL] at HRI HRG HFI HR8 ⊢
    clear hRL
    have r8 : RL.length ≤ 8 := HR8.out
    go_wp2_with fail
    go_loopw [14] (fun kv wr => ∃ (q : Nat) (hI : List Bool), q ≤ RL.length ∧ kv = .int .i64 q ∧ Hid (RB w wr #[.slice a1 xs.length c1, .slice a2 ys.length c2, .slice a3 is.length c3, .slice a4 bs.length c4] pb gB gI (List.replicate 16 false) hI ∧ HadN 8 RL q hI ∧ Chg (fun k => k = gI) w1 wr)) (fun kv _ => RL.length - (intOf kv).toNat)
    case atStart => exact ⟨0, _, Nat.zero_le _, rfl, HR1.out, HadN.begin 8 RL, Chg.refl _ _⟩
    case round =>
      obtain ⟨q, hI, hq, rfl, HQ⟩ := hrel
      clear HR1
      have q0 : (0 : Int) ≤ (q : Int) := by omega
      by_cases hlt : q < RL.length
      rotate_left
      · have q1 : ¬ ((q : Int) < (RL.length : Int)) := by omega
        have hIe := HFI.out q hI HQ.out.2.1 (by omega)
        subst hIe
        have HQ1 := hide HQ.out.1
        clear HQ HFI HRI HRG
        have z0 : wr.cell? ⟨w.heap.size, 0, none⟩ = some (.slice a1 xs.length c1) := HQ1.out.d.cell 0
        have z1 : wr.cell? ⟨w.heap.size, 1, none⟩ = some (.slice a2 ys.length c2) := HQ1.out.d.cell 1
        have z2 : wr.cell? ⟨w.heap.size, 2, none⟩ = some (.slice a3 is.length c3) := HQ1.out.d.cell 2
        have z3 : wr.cell? ⟨w.heap.size, 3, none⟩ = some (.slice a4 bs.length c4) := HQ1.out.d.cell 3
        have CP1 := hide (CP.out wr HQ1.out.b)
        obtain ⟨wl, hwl⟩ : ∃ W, W = wr := ⟨_, rfl⟩
        subst hwl
        go_wp2_with fail
        refine CP1.out.mono ?_
        rintro e w2 ⟨pv, rfl, P2, B2⟩
        obtain ⟨pa, pc', rfl, -⟩ := P2.form
        have HR2 : Hid (RB w w2 #[.slice a1 xs.length c1, .slice a2 ys.length c2, .slice a3 is.length c3, .slice a4 bs.length c4] pb gB gI (List.replicate 16 false) (fI is bs)) := HQ1.out.below B2
        have HPI : Hid (∀ wr, Chg (fun k => k = gB) w2 wr → RPr wr (.slice pa (ptrL is (reachL is bs)).length pc') (ptrL is (reachL is bs))) := fun wr c => (P2.of_heap fun k hk => c.block k (P2.lt k hk).2 (fun e => by have h1 := (P2.lt k hk).1; have h2 := HQ1.out.B.lt; omega)).rpr
        clear P2 B2 CP1 CP z0 z1 z2 z3 HQ1
        have HPG : Hid (∀ s ∈ ptrL is (reachL is bs), 1 ≤ s.2 ∧ s.2 ≤ 16) := fun s hs => (mem_ptrL hs).2
        have HFB : Hid (∀ k h, HadN 16 ((ptrL is (reachL is bs)).map (·.2)) k h → ((ptrL is (reachL is bs)).map (·.2)).length ≤ k → h = fB is bs) := fun k h H hk => had_all H hk
        obtain ⟨PL, hPL⟩ : ∃ l, ptrL is (reachL is bs) = l := ⟨_, rfl⟩
        rw [hPL] at HPI HPG HFB HP16 ⊢
        clear hPL
        have p16 : PL.length ≤ 16 := HP16.out
        go_wp2_with fail
        go_loopw [27] (fun kv wr => ∃ (t : Nat) (hB : List Bool), t ≤ PL.length ∧ kv = .int .i64 t ∧ Hid (RB w wr #[.slice a1 xs.length c1, .slice a2 ys.length c2, .slice a3 is.length c3, .slice a4 bs.length c4] pb gB gI hB (fI is bs) ∧ HadN 16 (PL.map (·.2)) t hB ∧ Chg (fun k => k = gB) w2 wr)) (fun kv _ => PL.length - (intOf kv).toNat)
        case atStart => exact ⟨0, _, Nat.zero_le _, rfl, HR2.out, HadN.begin 16 _, Chg.refl _ _⟩
        case round =>
          obtain ⟨t, hB, ht, rfl, HT⟩ := hrel
          clear HR2
          have t0 : (0 : Int) ≤ (t : Int) := by omega
          have p0 : wr.cell? ⟨pb, 0, none⟩ = some (.slice (some ⟨gB, 0, none⟩) 16 16) := HT.out.1.p.cell 0
          have p1 : wr.cell? ⟨pb, 1, none⟩ = some (.slice (some ⟨gI, 0, none⟩) 8 8) := HT.out.1.p.cell 1
          by_cases htl : t < PL.length
          rotate_left
          · have t1 : ¬ ((t : Int) < (PL.length : Int)) := by omega
            have hBe := HFB.out t hB HT.out.2.1 (by rw [List.length_map]; omega)
            subst hBe
            have r0 : wr.cell? ⟨w.heap.size + 1, 0, none⟩ = some (.slice none 0 0) := HT.out.1.r.cell 0
            have r1 : wr.cell? ⟨w.heap.size + 1, 1, none⟩ = some (.slice none 0 0) := HT.out.1.r.cell 1
            have f0 := HT.out.1.r.frozen 0
            have f1 := HT.out.1.r.frozen 1
            have hpn : ¬ w.heap.size + 1 = pb := by have := HP.out.p; omega
            have HEND : Hid (RFl ((wr.setCell ⟨w.heap.size + 1, 0, none⟩ (.slice (some ⟨gB, 0, none⟩) 16 16)).setCell ⟨w.heap.size + 1, 1, none⟩ (.slice (some ⟨gI, 0, none⟩) 8 8)) (.slice (some ⟨gB, 0, none⟩) 16 16) (fB is bs) ∧ RFl ((wr.setCell ⟨w.heap.size + 1, 0, none⟩ (.slice (some ⟨gB, 0, none⟩) 16 16)).setCell ⟨w.heap.size + 1, 1, none⟩ (.slice (some ⟨gI, 0, none⟩) 8 8)) (.slice (some ⟨gI, 0, none⟩) 8 8) (fI is bs) ∧ Below w.heap.size w ((wr.setCell ⟨w.heap.size + 1, 0, none⟩ (.slice (some ⟨gB, 0, none⟩) 16 16)).setCell ⟨w.heap.size + 1, 1, none⟩ (.slice (some ⟨gI, 0, none⟩) 8 8))) := by
              have hB1 := HP.out.B
              have hI1 := HP.out.I
              exact ⟨hA_rfl ((HT.out.1.B.other (by omega) _).other (by omega) _) (by simp [fB]), hA_rfl ((HT.out.1.I.other (by omega) _).other (by omega) _) (by simp [fI]), (HT.out.1.b.setCell (p := ⟨w.heap.size + 1, 0, none⟩) (by show w.heap.size ≤ w.heap.size + 1; omega) _).setCell (p := ⟨w.heap.size + 1, 1, none⟩) (by show w.heap.size ≤ w.heap.size + 1; omega) _⟩
            go_wp2
            refine bodyPost_ret (v := .agg #[.slice (some ⟨gB, 0, none⟩) 16 16, .slice (some ⟨gI, 0, none⟩) 8 8]) (by simp [results, go_sem, r0, r1]) rfl ⟨_, _, rfl, HEND.out⟩
          have t1 : (t : Int) < (PL.length : Int) := by omega
          obtain ⟨ca, cc, ec, -, hcs⟩ := HPI.out wr HT.out.2.2
          simp only [Value.slice.injEq, true_and] at ec
          obtain ⟨rfl, rfl⟩ := ec
          obtain ⟨gs, os, rfl, hgs, ks0, ks1⟩ := hcs t htl
          have hpg := HPG.out _ (List.getElem_mem htl)
          have hmk : (PL.map (·.2))[t]'(by rw [List.length_map]; exact htl) = (PL[t]).2 := List.getElem_map _
          obtain ⟨⟨io, pn⟩, hs⟩ : ∃ X, PL[t] = X := ⟨_, rfl⟩
          rw [hs] at ks0 ks1 hpg hmk
          simp only at ks0 ks1 hpg hmk
          obtain ⟨p, rfl⟩ : ∃ p : Nat, pn = (p : Int) + 1 := ⟨(pn - 1).toNat, by omega⟩
          have pp0 : (0 : Int) ≤ (p : Int) := by omega
          have pp1 : (p : Int) < 16 := by omega
          have hwp : IntKind.i64.wrap (p : Int) = (p : Int) := wrap_small _ (by omega) (by omega)
          have hp16 : p < 16 := by omega
          have hgw : ¬ gs = wr.heap.size := by omega
          have hpw : ¬ pb = wr.heap.size := by have := HT.out.1.p.lt; omega
          have hbw : ¬ gB = wr.heap.size := by have := HT.out.1.B.lt; omega
          have HA2 : Hid (RB w (wr.alloc (.cells #[.int .i64 io, .int .i64 ((p : Int) + 1)] 93)) #[.slice a1 xs.length c1, .slice a2 ys.length c2, .slice a3 is.length c3, .slice a4 bs.length c4] pb gB gI hB (fI is bs)) := HT.out.1.below ((Below.refl _ wr).alloc (Nat.le_refl _) _)
          have m0 : (wr.alloc (.cells #[.int .i64 io, .int .i64 ((p : Int) + 1)] 93)).cell? ⟨pb, 0, none⟩ = some (.slice (some ⟨gB, 0, none⟩) 16 16) := HA2.out.p.cell 0
          have kb := (HA2.out.B.cell p).trans (hA_get hB p (by rw [HT.out.2.1.n]; exact hp16))
          have fb := HA2.out.B.frozen p
          obtain ⟨bb, hbb⟩ : ∃ b, hB.getD p false = b := ⟨_, rfl⟩
          rw [hbb] at kb
          have HN : Hid (RB w ((wr.alloc (.cells #[.int .i64 io, .int .i64 ((p : Int) + 1)] 93)).setCell ⟨gB, p, none⟩ (.bool true)) #[.slice a1 xs.length c1, .slice a2 ys.length c2, .slice a3 is.length c3, .slice a4 bs.length c4] pb gB gI (hB.set p true) (fI is bs) ∧ HadN 16 (PL.map (·.2)) (t + 1) (hB.set p true) ∧ Chg (fun k => k = gB) w2 ((wr.alloc (.cells #[.int .i64 io, .int .i64 ((p : Int) + 1)] 93)).setCell ⟨gB, p, none⟩ (.bool true))) := ⟨HA2.out.setB HP.out p, HT.out.2.1.next (by rw [List.length_map]; exact htl) hmk hp16, (HT.out.2.2.trans (Chg.of_below ((Below.refl _ wr).alloc (Nat.le_refl _) _))).setCell rfl _⟩
          clear hcs hs hmk hbb HT
          go_wp2
          go_roundw
          case rel => exact ⟨t + 1, hB.set p true, by omega, by go_num, HN.out⟩
          case measure => simp [intOf]; omega
      have q1 : (q : Int) < (RL.length : Int) := by omega
      obtain ⟨ca, cc, ec, hcr⟩ := HRI.out wr HQ.out.2.2
      simp only [Value.slice.injEq, true_and] at ec
      obtain ⟨rfl, rfl⟩ := ec
      obtain ⟨gr, orr, rfl, hgr, kr⟩ := hcr q hlt
      have hrg := HRG.out _ (List.getElem_mem hlt)
      obtain ⟨di, hdi⟩ : ∃ x, RL[q] = x := ⟨_, rfl⟩
      rw [hdi] at kr hrg
      obtain ⟨j, rfl⟩ : ∃ j : Nat, di = (j : Int) + 1 := ⟨(di - 1).toNat, by omega⟩
      have j0 : (0 : Int) ≤ (j : Int) := by omega
      have j1 : (j : Int) < 8 := by omega
      have hwj : IntKind.i64.wrap (j : Int) = (j : Int) := wrap_small _ (by omega) (by omega)
      have hj8 : j < 8 := by omega
      have p1 : wr.cell? ⟨pb, 1, none⟩ = some (.slice (some ⟨gI, 0, none⟩) 8 8) := HQ.out.1.p.cell 1
      have kb := (HQ.out.1.I.cell j).trans (hA_get hI j (by rw [HQ.out.2.1.n]; exact hj8))
      have fb := HQ.out.1.I.frozen j
      obtain ⟨bb, hbb⟩ : ∃ b, hI.getD j false = b := ⟨_, rfl⟩
      rw [hbb] at kb
      have HN : Hid (RB w (wr.setCell ⟨gI, j, none⟩ (.bool true)) #[.slice a1 xs.length c1, .slice a2 ys.length c2, .slice a3 is.length c3, .slice a4 bs.length c4] pb gB gI (List.replicate 16 false) (hI.set j true) ∧ HadN 8 RL (q + 1) (hI.set j true) ∧ Chg (fun k => k = gI) w1 (wr.setCell ⟨gI, j, none⟩ (.bool true))) := ⟨HQ.out.1.setI HP.out j, HQ.out.2.1.next hlt hdi hj8, HQ.out.2.2.setCell rfl _⟩
      clear hcr hdi hbb HQ
      go_wp2
      go_roundw
      case rel => exact ⟨q + 1, hI.set j true, by omega, by go_num, HN.out⟩
      case measure => simp [intOf]; omega
end Go.Proofs.YtljooldjcefkoaaGreat
/- impl.sameBits, exactInode and the closure of ExactDisk by their contracts. -/
namespace Go.Proofs.YtljooldjcefkoaaGreat
open Go.RowKit Kit
theorem allEq_bool : ∀ (a b : List Bool), Go.Lib.allEq (fun x y => x == y) a b = decide (a = b)
  | [], [] => rfl
  | x :: r, y :: s => by
    have := allEq_bool r s
    simp only [Go.Lib.allEq, this]
    cases x <;> cases y <;> simp
  | [], _ :: _ => by simp [Go.Lib.allEq]
  | _ :: _, [] => by simp [Go.Lib.allEq]
theorem equalB_any (u v : Value) (a b : List Bool) (w : World) (h1 : RFl w u a) (h2 : RFl w v b) (ha : 0 < a.length ∧ a.length ≤ 100) (hb : 0 < b.length ∧ b.length ≤ 100) :
    Calls Tryz.prog 78 #[u, v] w fun e w' => e = .returned (.bool (decide (a = b))) ∧ ∃ q, w' = w.drewN q := by
  obtain ⟨a1, c1, rfl⟩ : ∃ a1 c1, u = .slice a1 a.length c1 := by obtain ⟨x, y, e, -⟩ := h1; exact ⟨x, y, e⟩
  obtain ⟨a2, c2, rfl⟩ : ∃ a1 c1, v = .slice a1 b.length c1 := by obtain ⟨x, y, e, -⟩ := h2; exact ⟨x, y, e⟩
  obtain ⟨g1, o1, rfl, -, k1⟩ := bits_base h1 ha.1
  obtain ⟨g2, o2, rfl, -, k2⟩ := bits_base h2 hb.1
  have := Tryz.slices_Equal Value.bool (fun x y => x == y) (NeqAt.bool 4 Tryz.underlying4) g1 o1 a.length c1 g2 o2 b.length c2 a b w (Nat.le_refl _) (Nat.le_refl _) (by omega) (by omega) (fun j hj => by rw [k1 j hj]; simp [hj]) (fun j hj => by rw [k2 j hj]; simp [hj])
  rw [List.take_length, List.take_length, allEq_bool] at this
  exact this
set_option maxRecDepth 100000 in
set_option maxHeartbeats 1600000 in
theorem sameB_any (u v u' v' : Value) (a b a' b' : List Bool) (w : World) (h1 : RFl w u a) (h2 : RFl w v b) (h3 : RFl w u' a') (h4 : RFl w v' b') (ha : a.length = 16) (hb : b.length = 8) (ha' : a'.length = 16) (hb' : b'.length = 8) :
    Calls Tryz.prog 38 #[.agg #[u, v], .agg #[u', v']] w fun e w' => e = .returned (.bool (decide (a = a') && decide (b = b'))) ∧ Below w.heap.size w w' := by
  obtain ⟨x1, y1, rfl⟩ : ∃ a1 c1, u = .slice a1 a.length c1 := by obtain ⟨x, y, e, -⟩ := h1; exact ⟨x, y, e⟩
  obtain ⟨x2, y2, rfl⟩ : ∃ a1 c1, v = .slice a1 b.length c1 := by obtain ⟨x, y, e, -⟩ := h2; exact ⟨x, y, e⟩
  obtain ⟨x3, y3, rfl⟩ : ∃ a1 c1, u' = .slice a1 a'.length c1 := by obtain ⟨x, y, e, -⟩ := h3; exact ⟨x, y, e⟩
  obtain ⟨x4, y4, rfl⟩ : ∃ a1 c1, v' = .slice a1 b'.length c1 := by obtain ⟨x, y, e, -⟩ := h4; exact ⟨x, y, e⟩
  have C1 := hide (fun (W : World) (hb' : Below w.heap.size w W) => equalB_any _ _ a a' W (h1.below hb' (Nat.le_refl _)) (h3.below hb' (Nat.le_refl _)) (by omega) (by omega))
  have C2 := hide (fun (W : World) (hb'' : Below w.heap.size w W) => equalB_any _ _ b b' W (h2.below hb'' (Nat.le_refl _)) (h4.below hb'' (Nat.le_refl _)) (by omega) (by omega))
  obtain ⟨W0, hW0⟩ : ∃ W, ((w.alloc (.cells #[.slice x1 a.length y1, .slice x2 b.length y2] 31)).alloc (.cells #[.slice x3 a'.length y3, .slice x4 b'.length y4] 31)) = W := ⟨_, rfl⟩
  have HA : Hid (AtC W0 w.heap.size 31 #[.slice x1 a.length y1, .slice x2 b.length y2] ∧ AtC W0 (w.heap.size + 1) 31 #[.slice x3 a'.length y3, .slice x4 b'.length y4] ∧ Below w.heap.size w W0) := by
    rw [← hW0]
    have q := AtC.new (w.alloc (.cells #[.slice x1 a.length y1, .slice x2 b.length y2] 31)) 31 #[.slice x3 a'.length y3, .slice x4 b'.length y4]
    rw [World.size_alloc] at q
    exact ⟨(AtC.new w 31 _).alloc _, q, ((Below.refl _ w).alloc (Nat.le_refl _) _).alloc (by simp) _⟩
  obtain ⟨d1, hd1⟩ : ∃ r, decide (a = a') = r := ⟨_, rfl⟩
  obtain ⟨d2, hd2⟩ : ∃ r, decide (b = b') = r := ⟨_, rfl⟩
  simp only [hd1] at C1 ⊢
  simp only [hd2] at C2 ⊢
  have m0 : W0.cell? ⟨w.heap.size, 0, none⟩ = some (.slice x1 a.length y1) := HA.out.1.cell 0
  have m1 : W0.cell? ⟨w.heap.size + 1, 0, none⟩ = some (.slice x3 a'.length y3) := HA.out.2.1.cell 0
  have D1 := hide (C1.out W0 HA.out.2.2)
  clear h1 h2 h3 h4 ha hb ha' hb' hd1 hd2 C1
  go_enter Tryz.func38, Tryz.ntmps38
  go_wp2_with fail
  refine D1.out.mono ?_
  rintro e w1 ⟨rfl, q, rfl⟩
  have HB1 : Hid (Below W0.heap.size W0 (W0.drewN q)) := below_drewN (Below.refl _ _) q
  cases d1 with
  | false =>
    go_wp2
    go_ret
    exact ⟨rfl, HA.out.2.2.trans (HB1.out.mono HA.out.2.2.size)⟩
  | true =>
    have n0 : (W0.drewN q).cell? ⟨w.heap.size, 1, none⟩ = some (.slice x2 b.length y2) := (HA.out.1.over HB1.out).cell 1
    have n1 : (W0.drewN q).cell? ⟨w.heap.size + 1, 1, none⟩ = some (.slice x4 b'.length y4) := (HA.out.2.1.over HB1.out).cell 1
    have D2 := hide (C2.out (W0.drewN q) (HA.out.2.2.trans (HB1.out.mono HA.out.2.2.size)))
    obtain ⟨W1, hW1⟩ : ∃ W, W0.drewN q = W := ⟨_, rfl⟩
    rw [hW1] at n0 n1 D2 HB1 ⊢
    clear hW1
    go_wp2_with fail
    refine D2.out.mono ?_
    rintro e w2 ⟨rfl, q2, rfl⟩
    have HB2 : Hid (Below w.heap.size w (W1.drewN q2)) := below_drewN (HA.out.2.2.trans (HB1.out.mono HA.out.2.2.size)) q2
    go_wp2
    go_ret
    exact ⟨rfl, HB2.out⟩
/-- What is asked of an inode of some kind. -/
def inoI (is : List Ino) (bs : List Blk) (j : Nat) : Bool := if j = 0 then decide (lnkAt is j = 1) && decide (linksN is bs ((j : Int) + 1) = 0) else (reachL is bs).contains ((j : Int) + 1) && decide (lnkAt is j = (linksN is bs ((j : Int) + 1) : Int)) && (decide (¬ kindAt is ((j : Int) + 1) = 2) || decide (linksN is bs ((j : Int) + 1) = 1))
set_option maxRecDepth 100000 in
set_option maxHeartbeats 6400000 in
theorem ex42_any (j : Nat) (dx dy iv bv : Value) (xs ys : List Bool) (is : List Ino) (bs : List Blk) (w : World) (h : DR w dx dy iv bv xs ys is bs) (hX : RX xs ys is bs) (hj8 : j < 8) :
    Calls Tryz.prog 42 #[.agg #[dx, dy, iv, bv], .int .i64 ((j : Int) + 1)] w fun e w' => e = .returned (.bool (inoI is bs j)) ∧ Below w.heap.size w w' := by
  obtain ⟨a1, c1, a2, c2, a3, c3, a4, c4, rfl, rfl, rfl, rfl⟩ := h.form
  have hj : j < is.length := by rw [hX.r.hi]; exact hj8
  obtain ⟨g2, o2, sa, sc, rfl, hg2, y0, y1, y2, -⟩ := DR.ino h j hj
  have el : lnkAt is j = is[j].2.1 := by unfold lnkAt; simp [hj]
  rw [← el] at y1
  have j0 : (0 : Int) ≤ (j : Int) := by omega
  have j2 : (j : Int) < (is.length : Int) := by omega
  have hwj : IntKind.i64.wrap (j : Int) = (j : Int) := wrap_small _ (by omega) (by omega)
  have CL := hide (fun (W : World) (hb : Below w.heap.size w W) => implLinks_any ((j : Int) + 1) (.slice a1 xs.length c1) (.slice a2 ys.length c2) (.slice (some ⟨g2, o2, none⟩) is.length c3) (.slice a4 bs.length c4) xs ys is bs W (h.below hb (Nat.le_refl _)) hX.r)
  have CR := hide (fun (W : World) (hb : Below w.heap.size w W) => implReach_any (.slice a1 xs.length c1) (.slice a2 ys.length c2) (.slice (some ⟨g2, o2, none⟩) is.length c3) (.slice a4 bs.length c4) xs ys is bs W (h.below hb (Nat.le_refl _)) hX.r)
  have HR8 := hide (reachL_len is bs)
  have HIN : Hid (inoI is bs j = if j = 0 then decide (lnkAt is j = 1) && decide (linksN is bs ((j : Int) + 1) = 0) else (reachL is bs).contains ((j : Int) + 1) && decide (lnkAt is j = (linksN is bs ((j : Int) + 1) : Int)) && (decide (¬ kindAt is ((j : Int) + 1) = 2) || decide (linksN is bs ((j : Int) + 1) = 1))) := rfl
  obtain ⟨W0, hW0⟩ : ∃ W, (w.alloc (.cells #[.slice a1 xs.length c1, .slice a2 ys.length c2, .slice (some ⟨g2, o2, none⟩) is.length c3, .slice a4 bs.length c4] 35)) = W := ⟨_, rfl⟩
  have HA : Hid (AtC W0 w.heap.size 35 #[.slice a1 xs.length c1, .slice a2 ys.length c2, .slice (some ⟨g2, o2, none⟩) is.length c3, .slice a4 bs.length c4] ∧ Below w.heap.size w W0) := by
    rw [← hW0]
    exact ⟨AtC.new _ _ _, (Below.refl _ w).alloc (Nat.le_refl _) _⟩
  obtain ⟨kd, hkd⟩ : ∃ n, kindAt is ((j : Int) + 1) = n := ⟨_, rfl⟩
  obtain ⟨lk, hlk⟩ : ∃ n, lnkAt is j = n := ⟨_, rfl⟩
  obtain ⟨ln, hln⟩ : ∃ n, linksN is bs ((j : Int) + 1) = n := ⟨_, rfl⟩
  obtain ⟨sn, hsn⟩ : ∃ n, (ptrsAt is ((j : Int) + 1)).length = n := ⟨_, rfl⟩
  simp only [hkd, hlk, hln] at HIN
  rw [hkd] at y0
  rw [hlk] at y1
  rw [hsn] at y2
  simp only [hln] at CL
  have HW : Hid (∀ W, Below W0.heap.size W0 W → AtC W w.heap.size 35 #[.slice a1 xs.length c1, .slice a2 ys.length c2, .slice (some ⟨g2, o2, none⟩) is.length c3, .slice a4 bs.length c4] ∧ (W.cell? ⟨g2, o2 + j * 3, none⟩ = some (.int .i64 kd) ∧ W.cell? ⟨g2, o2 + j * 3 + 1, none⟩ = some (.int .i64 lk) ∧ W.cell? ⟨g2, o2 + j * 3 + 2, none⟩ = some (.slice sa sn sc)) ∧ Below w.heap.size w W) := fun W b => by
    have b0 := HA.out.2.trans (b.mono HA.out.2.size)
    exact ⟨HA.out.1.over b, ⟨(b0.cell (p := ⟨g2, o2 + j * 3, none⟩) hg2).trans y0, (b0.cell (p := ⟨g2, o2 + j * 3 + 1, none⟩) hg2).trans y1, (b0.cell (p := ⟨g2, o2 + j * 3 + 2, none⟩) hg2).trans y2⟩, b0⟩
  clear h hX y0 y1 y2 el hkd hlk hln hsn
  go_enter Tryz.func42, Tryz.ntmps42
  go_upto_region 1 with fail
  clear hW0
  go_cut [5, 6] from 7 to 43 (fun pv lv wx => ∃ xb : Nat, pv = .pointer (some ⟨xb, 0, none⟩) ∧ lv = .int .i64 (ln : Int) ∧ AtC wx xb 44 #[.int .i64 kd, .int .i64 lk, .slice sa sn sc] ∧ Below W0.heap.size W0 wx)
  case first =>
    refine wp_region_alt (by kernel_rfl) [0, 1, 2, 3, 4, 5, 6, 7, 8, 9, 11] [10] [([0, 1, 2, 3, 4, 5, 6, 7, 8, 9], [[11, 10], [10, 11]])] (fun i => match i with | 0 => .const [] (.pointer (some ⟨w.heap.size, 2, none⟩)) | 1 => .const [0] (.slice (some ⟨g2, o2, none⟩) is.length c3) | 2 => .const [] (.int .i64 ((j : Int) + 1)) | 3 => .const [2] (.int .i64 (j : Int)) | 4 => .const [1, 3] (.pointer (some ⟨g2, o2 + j * 3, none⟩)) | 5 => .const [4] (.agg #[.int .i64 kd, .int .i64 lk, .slice sa sn sc]) | 6 => .const [] (.agg #[.slice a1 xs.length c1, .slice a2 ys.length c2, .slice (some ⟨g2, o2, none⟩) is.length c3, .slice a4 bs.length c4]) | 7 => .const [] (.int .i64 ((j : Int) + 1)) | 8 => .const [6, 7] (.int .i64 (ln : Int)) | 9 => MkW 44 #[.int .i64 0, .int .i64 0, .slice none 0 0] | 11 => .const [8] (.int .i64 (ln : Int)) | _ => .triv) (fun x => ⟨#[Value.agg #[Value.slice a1 xs.length c1, Value.slice a2 ys.length c2, Value.slice (some { block := g2, off := o2 }) is.length c3, Value.slice a4 bs.length c4], Value.int IntKind.i64 (↑j + 1), Value.pointer (some { block := w.heap.size, off := 0 }), undef, Value.bool false, x 9, x 11, x 0, x 1, x 2, x 3, x 4, x 5, x 6, x 7, x 8, undef, undef, undef, undef, undef, undef, undef, undef, undef, undef, undef, undef, undef, undef, undef, undef, undef, undef, undef, undef, undef, undef, undef, undef, undef, undef, undef, undef], []⟩) (fun i => match i with | 0 => undef | 1 => undef | 2 => undef | 3 => undef | 4 => undef | 5 => undef | 6 => undef | 7 => undef | 8 => undef | 9 => undef | 11 => undef | _ => undef) rfl (makersOk2_of (by kernel_rfl) (by kernel_rfl)) (by kernel_rfl) (by kernel_rfl) (by kernel_rfl) rfl ?_ ?_ ?_
    · intro jo hj so x iw W hd hp K hK
      simp only [List.mem_cons, List.not_mem_nil, or_false] at hj
      rcases hj with rfl | rfl | rfl | rfl | rfl | rfl | rfl | rfl | rfl | rfl | rfl
      · refine wpOp_step (o := _) rfl fun K' hK' => ?_
        have HK : Hid (∀ v W', Below W.heap.size W W' → ((Mk.const [] (.pointer (some ⟨w.heap.size, 2, none⟩)) : Mk)).P W.heap.size W'.heap.size W' v (upd x 0 v) → K' ⟨#[Value.agg #[Value.slice a1 xs.length c1, Value.slice a2 ys.length c2, Value.slice (some { block := g2, off := o2 }) is.length c3, Value.slice a4 bs.length c4], Value.int IntKind.i64 (↑j + 1), Value.pointer (some { block := w.heap.size, off := 0 }), undef, Value.bool false, x 9, x 11, v, x 1, x 2, x 3, x 4, x 5, x 6, x 7, x 8, undef, undef, undef, undef, undef, undef, undef, undef, undef, undef, undef, undef, undef, undef, undef, undef, undef, undef, undef, undef, undef, undef, undef, undef, undef, undef, undef, undef], []⟩ W') := fun v W' h1 h2 => hK' _ _ (hK v W' h1 h2)
        clear hK hK' hp hd
        go_simp
        exact HK.out _ _ (Below.refl _ _) rfl
      · refine wpOp_step (o := _) rfl fun K' hK' => ?_
        have HK : Hid (∀ v W', Below W.heap.size W W' → ((Mk.const [0] (.slice (some ⟨g2, o2, none⟩) is.length c3) : Mk)).P W.heap.size W'.heap.size W' v (upd x 1 v) → K' ⟨#[Value.agg #[Value.slice a1 xs.length c1, Value.slice a2 ys.length c2, Value.slice (some { block := g2, off := o2 }) is.length c3, Value.slice a4 bs.length c4], Value.int IntKind.i64 (↑j + 1), Value.pointer (some { block := w.heap.size, off := 0 }), undef, Value.bool false, x 9, x 11, x 0, v, x 2, x 3, x 4, x 5, x 6, x 7, x 8, undef, undef, undef, undef, undef, undef, undef, undef, undef, undef, undef, undef, undef, undef, undef, undef, undef, undef, undef, undef, undef, undef, undef, undef, undef, undef, undef, undef], []⟩ W') := fun v W' h1 h2 => hK' _ _ (hK v W' h1 h2)
        have e0 : x 0 = .pointer (some ⟨w.heap.size, 2, none⟩) := hp.post 0 (hd 0 (show 0 ∈ [0] from by decide))
        have bw := HW.out W (of_drew hp.bel)
        have k0 : W.cell? ⟨w.heap.size, 2, none⟩ = some (.slice (some ⟨g2, o2, none⟩) is.length c3) := bw.1.cell 2
        clear bw
        clear hK hK' hp hd
        simp only [e0] at HK ⊢
        go_simp
        exact HK.out _ _ (Below.refl _ _) rfl
      · refine wpOp_step (o := _) rfl fun K' hK' => ?_
        have HK : Hid (∀ v W', Below W.heap.size W W' → ((Mk.const [] (.int .i64 ((j : Int) + 1)) : Mk)).P W.heap.size W'.heap.size W' v (upd x 2 v) → K' ⟨#[Value.agg #[Value.slice a1 xs.length c1, Value.slice a2 ys.length c2, Value.slice (some { block := g2, off := o2 }) is.length c3, Value.slice a4 bs.length c4], Value.int IntKind.i64 (↑j + 1), Value.pointer (some { block := w.heap.size, off := 0 }), undef, Value.bool false, x 9, x 11, x 0, x 1, v, x 3, x 4, x 5, x 6, x 7, x 8, undef, undef, undef, undef, undef, undef, undef, undef, undef, undef, undef, undef, undef, undef, undef, undef, undef, undef, undef, undef, undef, undef, undef, undef, undef, undef, undef, undef], []⟩ W') := fun v W' h1 h2 => hK' _ _ (hK v W' h1 h2)
        clear hK hK' hp hd
        go_simp
        exact HK.out _ _ (Below.refl _ _) rfl
      · refine wpOp_step (o := _) rfl fun K' hK' => ?_
        have HK : Hid (∀ v W', Below W.heap.size W W' → ((Mk.const [2] (.int .i64 (j : Int)) : Mk)).P W.heap.size W'.heap.size W' v (upd x 3 v) → K' ⟨#[Value.agg #[Value.slice a1 xs.length c1, Value.slice a2 ys.length c2, Value.slice (some { block := g2, off := o2 }) is.length c3, Value.slice a4 bs.length c4], Value.int IntKind.i64 (↑j + 1), Value.pointer (some { block := w.heap.size, off := 0 }), undef, Value.bool false, x 9, x 11, x 0, x 1, x 2, v, x 4, x 5, x 6, x 7, x 8, undef, undef, undef, undef, undef, undef, undef, undef, undef, undef, undef, undef, undef, undef, undef, undef, undef, undef, undef, undef, undef, undef, undef, undef, undef, undef, undef, undef], []⟩ W') := fun v W' h1 h2 => hK' _ _ (hK v W' h1 h2)
        have e2 : x 2 = .int .i64 ((j : Int) + 1) := hp.post 2 (hd 2 (show 2 ∈ [2] from by decide))
        clear hK hK' hp hd
        simp only [e2] at HK ⊢
        go_simp
        exact HK.out _ _ (Below.refl _ _) rfl
      · refine wpOp_step (o := _) rfl fun K' hK' => ?_
        have HK : Hid (∀ v W', Below W.heap.size W W' → ((Mk.const [1, 3] (.pointer (some ⟨g2, o2 + j * 3, none⟩)) : Mk)).P W.heap.size W'.heap.size W' v (upd x 4 v) → K' ⟨#[Value.agg #[Value.slice a1 xs.length c1, Value.slice a2 ys.length c2, Value.slice (some { block := g2, off := o2 }) is.length c3, Value.slice a4 bs.length c4], Value.int IntKind.i64 (↑j + 1), Value.pointer (some { block := w.heap.size, off := 0 }), undef, Value.bool false, x 9, x 11, x 0, x 1, x 2, x 3, v, x 5, x 6, x 7, x 8, undef, undef, undef, undef, undef, undef, undef, undef, undef, undef, undef, undef, undef, undef, undef, undef, undef, undef, undef, undef, undef, undef, undef, undef, undef, undef, undef, undef], []⟩ W') := fun v W' h1 h2 => hK' _ _ (hK v W' h1 h2)
        have e1 : x 1 = .slice (some ⟨g2, o2, none⟩) is.length c3 := hp.post 1 (hd 1 (show 1 ∈ [1, 3] from by decide))
        have e3 : x 3 = .int .i64 (j : Int) := hp.post 3 (hd 3 (show 3 ∈ [1, 3] from by decide))
        clear hK hK' hp hd
        simp only [e1, e3] at HK ⊢
        go_simp
        exact HK.out _ _ (Below.refl _ _) rfl
      · refine wpOp_step (o := _) rfl fun K' hK' => ?_
        have HK : Hid (∀ v W', Below W.heap.size W W' → ((Mk.const [4] (.agg #[.int .i64 kd, .int .i64 lk, .slice sa sn sc]) : Mk)).P W.heap.size W'.heap.size W' v (upd x 5 v) → K' ⟨#[Value.agg #[Value.slice a1 xs.length c1, Value.slice a2 ys.length c2, Value.slice (some { block := g2, off := o2 }) is.length c3, Value.slice a4 bs.length c4], Value.int IntKind.i64 (↑j + 1), Value.pointer (some { block := w.heap.size, off := 0 }), undef, Value.bool false, x 9, x 11, x 0, x 1, x 2, x 3, x 4, v, x 6, x 7, x 8, undef, undef, undef, undef, undef, undef, undef, undef, undef, undef, undef, undef, undef, undef, undef, undef, undef, undef, undef, undef, undef, undef, undef, undef, undef, undef, undef, undef], []⟩ W') := fun v W' h1 h2 => hK' _ _ (hK v W' h1 h2)
        have e4 : x 4 = .pointer (some ⟨g2, o2 + j * 3, none⟩) := hp.post 4 (hd 4 (show 4 ∈ [4] from by decide))
        have bw := HW.out W (of_drew hp.bel)
        obtain ⟨k0, k1, k2⟩ := bw.2.1
        clear bw
        clear hK hK' hp hd
        simp only [e4] at HK ⊢
        go_simp
        exact HK.out _ _ (Below.refl _ _) rfl
      · refine wpOp_step (o := _) rfl fun K' hK' => ?_
        have HK : Hid (∀ v W', Below W.heap.size W W' → ((Mk.const [] (.agg #[.slice a1 xs.length c1, .slice a2 ys.length c2, .slice (some ⟨g2, o2, none⟩) is.length c3, .slice a4 bs.length c4]) : Mk)).P W.heap.size W'.heap.size W' v (upd x 6 v) → K' ⟨#[Value.agg #[Value.slice a1 xs.length c1, Value.slice a2 ys.length c2, Value.slice (some { block := g2, off := o2 }) is.length c3, Value.slice a4 bs.length c4], Value.int IntKind.i64 (↑j + 1), Value.pointer (some { block := w.heap.size, off := 0 }), undef, Value.bool false, x 9, x 11, x 0, x 1, x 2, x 3, x 4, x 5, v, x 7, x 8, undef, undef, undef, undef, undef, undef, undef, undef, undef, undef, undef, undef, undef, undef, undef, undef, undef, undef, undef, undef, undef, undef, undef, undef, undef, undef, undef, undef], []⟩ W') := fun v W' h1 h2 => hK' _ _ (hK v W' h1 h2)
        have bw := HW.out W (of_drew hp.bel)
        have k0 : W.cell? ⟨w.heap.size, 0, none⟩ = some (.slice a1 xs.length c1) := bw.1.cell 0
        have k1 : W.cell? ⟨w.heap.size, 1, none⟩ = some (.slice a2 ys.length c2) := bw.1.cell 1
        have k2 : W.cell? ⟨w.heap.size, 2, none⟩ = some (.slice (some ⟨g2, o2, none⟩) is.length c3) := bw.1.cell 2
        have k3 : W.cell? ⟨w.heap.size, 3, none⟩ = some (.slice a4 bs.length c4) := bw.1.cell 3
        clear bw
        clear hK hK' hp hd
        go_simp
        exact HK.out _ _ (Below.refl _ _) rfl
      · refine wpOp_step (o := _) rfl fun K' hK' => ?_
        have HK : Hid (∀ v W', Below W.heap.size W W' → ((Mk.const [] (.int .i64 ((j : Int) + 1)) : Mk)).P W.heap.size W'.heap.size W' v (upd x 7 v) → K' ⟨#[Value.agg #[Value.slice a1 xs.length c1, Value.slice a2 ys.length c2, Value.slice (some { block := g2, off := o2 }) is.length c3, Value.slice a4 bs.length c4], Value.int IntKind.i64 (↑j + 1), Value.pointer (some { block := w.heap.size, off := 0 }), undef, Value.bool false, x 9, x 11, x 0, x 1, x 2, x 3, x 4, x 5, x 6, v, x 8, undef, undef, undef, undef, undef, undef, undef, undef, undef, undef, undef, undef, undef, undef, undef, undef, undef, undef, undef, undef, undef, undef, undef, undef, undef, undef, undef, undef], []⟩ W') := fun v W' h1 h2 => hK' _ _ (hK v W' h1 h2)
        clear hK hK' hp hd
        go_simp
        exact HK.out _ _ (Below.refl _ _) rfl
      · refine wpOp_step (o := _) rfl fun K' hK' => ?_
        have HK : Hid (∀ v W', Below W.heap.size W W' → ((Mk.const [6, 7] (.int .i64 (ln : Int)) : Mk)).P W.heap.size W'.heap.size W' v (upd x 8 v) → K' ⟨#[Value.agg #[Value.slice a1 xs.length c1, Value.slice a2 ys.length c2, Value.slice (some { block := g2, off := o2 }) is.length c3, Value.slice a4 bs.length c4], Value.int IntKind.i64 (↑j + 1), Value.pointer (some { block := w.heap.size, off := 0 }), undef, Value.bool false, x 9, x 11, x 0, x 1, x 2, x 3, x 4, x 5, x 6, x 7, v, undef, undef, undef, undef, undef, undef, undef, undef, undef, undef, undef, undef, undef, undef, undef, undef, undef, undef, undef, undef, undef, undef, undef, undef, undef, undef, undef, undef], []⟩ W') := fun v W' h1 h2 => hK' _ _ (hK v W' h1 h2)
        have e6 : x 6 = .agg #[.slice a1 xs.length c1, .slice a2 ys.length c2, .slice (some ⟨g2, o2, none⟩) is.length c3, .slice a4 bs.length c4] := hp.post 6 (hd 6 (show 6 ∈ [6, 7] from by decide))
        have e7 : x 7 = .int .i64 ((j : Int) + 1) := hp.post 7 (hd 7 (show 7 ∈ [6, 7] from by decide))
        have dr := (HW.out W (of_drew hp.bel)).2.2
        clear hK hK' hp hd
        simp only [e6, e7] at HK ⊢
        clear e6 e7
        go_simp
        refine (CL.out W dr).mono ?_
        rintro e w6 ⟨rfl, B6⟩
        go_simp
        exact HK.out _ _ B6 rfl
      · refine wpOp_step (o := _) rfl fun K' hK' => ?_
        have HK : Hid (∀ v W', Below W.heap.size W W' → (MkW 44 #[.int .i64 0, .int .i64 0, .slice none 0 0]).P W.heap.size W'.heap.size W' v (upd x 9 v) → K' ⟨#[Value.agg #[Value.slice a1 xs.length c1, Value.slice a2 ys.length c2, Value.slice (some { block := g2, off := o2 }) is.length c3, Value.slice a4 bs.length c4], Value.int IntKind.i64 (↑j + 1), Value.pointer (some { block := w.heap.size, off := 0 }), undef, Value.bool false, v, x 11, x 0, x 1, x 2, x 3, x 4, x 5, x 6, x 7, x 8, undef, undef, undef, undef, undef, undef, undef, undef, undef, undef, undef, undef, undef, undef, undef, undef, undef, undef, undef, undef, undef, undef, undef, undef, undef, undef, undef, undef], []⟩ W') := fun v W' h1 h2 => hK' _ _ (hK v W' h1 h2)
        clear hK hK' hp hd
        go_simp
        exact HK.out _ _ ((Below.refl _ W).alloc (Nat.le_refl _) _) ⟨rfl, by simp, AtC.new W 44 _⟩
      · refine wpOp_step (o := _) rfl fun K' hK' => ?_
        have HK : Hid (∀ v W', Below W.heap.size W W' → ((Mk.const [8] (.int .i64 (ln : Int)) : Mk)).P W.heap.size W'.heap.size W' v (upd x 11 v) → K' ⟨#[Value.agg #[Value.slice a1 xs.length c1, Value.slice a2 ys.length c2, Value.slice (some { block := g2, off := o2 }) is.length c3, Value.slice a4 bs.length c4], Value.int IntKind.i64 (↑j + 1), Value.pointer (some { block := w.heap.size, off := 0 }), undef, Value.bool false, x 9, v, x 0, x 1, x 2, x 3, x 4, x 5, x 6, x 7, x 8, undef, undef, undef, undef, undef, undef, undef, undef, undef, undef, undef, undef, undef, undef, undef, undef, undef, undef, undef, undef, undef, undef, undef, undef, undef, undef, undef, undef], []⟩ W') := fun v W' h1 h2 => hK' _ _ (hK v W' h1 h2)
        have e8 : x 8 = .int .i64 (ln : Int) := hp.post 8 (hd 8 (show 8 ∈ [8] from by decide))
        clear hK hK' hp hd
        simp only [e8] at HK ⊢
        go_simp
        exact HK.out _ _ (Below.refl _ _) rfl
    · intro x iw W hp
      have e5 : x 5 = .agg #[.int .i64 kd, .int .i64 lk, .slice sa sn sc] := hp.post 5 (by decide)
      have e8 : x 8 = .int .i64 (ln : Int) := hp.post 8 (by decide)
      have e11 : x 11 = .int .i64 (ln : Int) := hp.post 11 (by decide)
      obtain ⟨e9, z9, A9⟩ := hp.post 9 (by decide)
      have l9 := hp.lo 9 (by decide)
      have bel := of_drew hp.bel
      have hb9 : W0.heap.size ≤ (iw 9).1 := l9.1
      have y0 : W.cell? ⟨(iw 9).1, 0, none⟩ = some (.int .i64 0) := A9.cell 0
      have y1 : W.cell? ⟨(iw 9).1, 1, none⟩ = some (.int .i64 0) := A9.cell 1
      have y2 : W.cell? ⟨(iw 9).1, 2, none⟩ = some (.slice none 0 0) := A9.cell 2
      have f0 := A9.frozen 0
      have f1 := A9.frozen 1
      have f2 := A9.frozen 2
      have HFI : Hid (AtC W (iw 9).1 44 #[.int .i64 0, .int .i64 0, .slice none 0 0] ∧ Below W0.heap.size W0 W ∧ W0.heap.size ≤ (iw 9).1) := ⟨A9, bel, hb9⟩
      clear hp A9 bel l9 z9 hb9
      simp only [e5, e8, e9, e11] at *
      generalize (iw 9).1 = bw at *
      go_wp2_with fail
      try rw [List.filterMap_nil]
      try go_wp2_with fail
      go_meet
      exact ⟨bw, rfl, rfl, ((HFI.out.1.set 0 _).set 1 _).set 2 _, ((HFI.out.2.1.setCell (p := ⟨bw, 0, none⟩) HFI.out.2.2 _).setCell (p := ⟨bw, 1, none⟩) HFI.out.2.2 _).setCell (p := ⟨bw, 2, none⟩) HFI.out.2.2 _⟩
    · intro qa hqa l hl x iw W hp
      simp only [List.mem_cons, List.not_mem_nil, or_false] at hqa
      subst hqa
      simp only [List.mem_cons, List.not_mem_nil, or_false] at hl
      have e5 : x 5 = .agg #[.int .i64 kd, .int .i64 lk, .slice sa sn sc] := hp.post 5 (by decide)
      have e8 : x 8 = .int .i64 (ln : Int) := hp.post 8 (by decide)
      obtain ⟨e9, z9, A9⟩ := hp.post 9 (by decide)
      have l9 := hp.lo 9 (by decide)
      have bel := of_drew hp.bel
      have hb9 : W0.heap.size ≤ (iw 9).1 := l9.1
      have y0 : W.cell? ⟨(iw 9).1, 0, none⟩ = some (.int .i64 0) := A9.cell 0
      have y1 : W.cell? ⟨(iw 9).1, 1, none⟩ = some (.int .i64 0) := A9.cell 1
      have y2 : W.cell? ⟨(iw 9).1, 2, none⟩ = some (.slice none 0 0) := A9.cell 2
      have f0 := A9.frozen 0
      have f1 := A9.frozen 1
      have f2 := A9.frozen 2
      have HFI : Hid (AtC W (iw 9).1 44 #[.int .i64 0, .int .i64 0, .slice none 0 0] ∧ Below W0.heap.size W0 W ∧ W0.heap.size ≤ (iw 9).1) := ⟨A9, bel, hb9⟩
      clear hp A9 bel l9 z9 hb9
      simp only [e5, e8, e9] at *
      generalize (iw 9).1 = bw at *
      rcases hl with rfl | rfl
      · go_wp2_with fail
        try rw [List.filterMap_nil]
        try go_wp2_with fail
        go_meet
        exact ⟨bw, rfl, rfl, ((HFI.out.1.set 0 _).set 1 _).set 2 _, ((HFI.out.2.1.setCell (p := ⟨bw, 0, none⟩) HFI.out.2.2 _).setCell (p := ⟨bw, 1, none⟩) HFI.out.2.2 _).setCell (p := ⟨bw, 2, none⟩) HFI.out.2.2 _⟩
      · go_wp2_with fail
        try rw [List.filterMap_nil]
        try go_wp2_with fail
        go_meet
        exact ⟨bw, rfl, rfl, ((HFI.out.1.set 0 _).set 1 _).set 2 _, ((HFI.out.2.1.setCell (p := ⟨bw, 0, none⟩) HFI.out.2.2 _).setCell (p := ⟨bw, 1, none⟩) HFI.out.2.2 _).setCell (p := ⟨bw, 2, none⟩) HFI.out.2.2 _⟩
  case rest =>
    obtain ⟨xb, rfl, rfl, hAx, hB2⟩ := hcut
    have x0 : wc.cell? ⟨xb, 0, none⟩ = some (.int .i64 kd) := hAx.cell 0
    have x1 : wc.cell? ⟨xb, 1, none⟩ = some (.int .i64 lk) := hAx.cell 1
    have HX2 := hide (And.intro hAx (HW.out _ hB2))
    clear hAx hB2
    by_cases hj0 : j = 0
    · have HF : Hid (inoI is bs j = ((lk == 1) && ((ln : Int) == 0))) := hide (by
        have e2 : decide (ln = 0) = ((ln : Int) == 0) := by rw [show ((ln : Int) == 0) = decide ((ln : Int) = 0) from rfl]; exact decide_eq_decide.2 (by omega)
        rw [HIN.out, if_pos hj0, e2]
        rfl)
      have jb : ((j : Int) + 1 == 1) = true := by simp [hj0]
      clear hj0
      by_cases hl1 : lk = 1
      · subst hl1
        go_wp2
        go_ret
        exact ⟨by rw [HF.out]; rfl, HX2.out.2.2.2⟩
      · have hlb : (lk == 1) = false := by simp [hl1]
        clear hl1
        go_wp2
        go_ret
        exact ⟨by rw [HF.out, hlb]; rfl, HX2.out.2.2.2⟩
    have jb : ((j : Int) + 1 == 1) = false := by simp; omega
    have ji : ¬ ((j : Int) + 1 = 1) := by omega
    have z0 : wc.cell? ⟨w.heap.size, 0, none⟩ = some (.slice a1 xs.length c1) := HX2.out.2.1.cell 0
    have z1 : wc.cell? ⟨w.heap.size, 1, none⟩ = some (.slice a2 ys.length c2) := HX2.out.2.1.cell 1
    have z2 : wc.cell? ⟨w.heap.size, 2, none⟩ = some (.slice (some ⟨g2, o2, none⟩) is.length c3) := HX2.out.2.1.cell 2
    have z3 : wc.cell? ⟨w.heap.size, 3, none⟩ = some (.slice a4 bs.length c4) := HX2.out.2.1.cell 3
    have CR1 := hide (CR.out wc HX2.out.2.2.2)
    have HF : Hid (inoI is bs j = ((reachL is bs).contains ((j : Int) + 1) && (lk == (ln : Int)) && ((kd != 2) || ((ln : Int) == 1)))) := hide (by
      have e2 : decide (ln = 1) = ((ln : Int) == 1) := by rw [show ((ln : Int) == 1) = decide ((ln : Int) = 1) from rfl]; exact decide_eq_decide.2 (by omega)
      have e3 : decide (¬ kd = 2) = (kd != 2) := by by_cases e : kd = 2 <;> simp [e]
      rw [HIN.out, if_neg hj0, e2, e3]
      rfl)
    clear hj0
    go_wp2_with fail
    refine CR1.out.mono ?_
    rintro e w3 ⟨rv, rfl, R3, B3⟩
    have HB3 : Hid (Below w.heap.size w w3) := HX2.out.2.2.2.trans (B3.mono HX2.out.2.2.2.size)
    have CH := hide (hasL_any rv (reachL is bs) ((j : Int) + 1) w3 R3.rints (by have := HR8.out; omega))
    obtain ⟨ra, rc, rfl, -⟩ := R3.form
    have v0 : w3.cell? ⟨xb, 0, none⟩ = some (.int .i64 kd) := (HX2.out.1.over B3).cell 0
    have v1 : w3.cell? ⟨xb, 1, none⟩ = some (.int .i64 lk) := (HX2.out.1.over B3).cell 1
    obtain ⟨r, hr⟩ : ∃ b, (reachL is bs).contains ((j : Int) + 1) = b := ⟨_, rfl⟩
    rw [hr] at CH HF
    obtain ⟨m, hm⟩ : ∃ m, (ic (reachL is bs)).length = m := ⟨_, rfl⟩
    rw [hm] at CH ⊢
    clear R3 B3 CR CR1 z0 z1 z2 z3 x0 x1 hr hm HIN
    go_wp2_with fail
    refine CH.out.mono ?_
    rintro e w4 ⟨rfl, rfl⟩
    cases r with
    | false =>
      go_wp2
      go_ret
      exact ⟨by rw [HF.out]; rfl, HB3.out⟩
    | true =>
      cases hll : (lk == (ln : Int)) with
      | false =>
        have hll2 : ¬ lk = (ln : Int) := by simpa using hll
        rw [hll] at HF
        go_wp2
        go_ret
        exact ⟨by rw [HF.out]; rfl, HB3.out⟩
      | true =>
        have hll2 : lk = (ln : Int) := by simpa using hll
        rw [hll] at HF
        clear hll
        cases hk2 : (kd != 2) with
        | true =>
          have hk3 : ¬ kd = 2 := by simpa using hk2
          rw [hk2] at HF
          subst hll2
          go_wp2
          go_ret
          exact ⟨by rw [HF.out]; rfl, HB3.out⟩
        | false =>
          have hk3 : kd = 2 := by simpa using hk2
          rw [hk2] at HF
          clear hk2
          subst hk3
          subst hll2
          go_wp2
          go_ret
          exact ⟨by rw [HF.out]; rfl, HB3.out⟩
set_option maxRecDepth 100000 in
set_option maxHeartbeats 800000 in
theorem c41_any (j : Nat) (a1 a2 a3 a4 : Option Addr) (c1 c2 c3 c4 : Nat) (xs ys : List Bool) (is : List Ino) (bs : List Blk) (dk : Nat) (w : World) (h : DR w (.slice a1 xs.length c1) (.slice a2 ys.length c2) (.slice a3 is.length c3) (.slice a4 bs.length c4) xs ys is bs) (hX : RX xs ys is bs) (hd : AtC w dk 35 #[.slice a1 xs.length c1, .slice a2 ys.length c2, .slice a3 is.length c3, .slice a4 bs.length c4]) (hj8 : j < 8) :
    Calls Tryz.prog 41 #[.int .i64 ((j : Int) + 1), .pointer (some ⟨dk, 0, none⟩)] w fun e w' => e = .returned (.bool (!(inoI is bs j))) ∧ Below w.heap.size w w' := by
  have CT := hide (ex42_any j (.slice a1 xs.length c1) (.slice a2 ys.length c2) (.slice a3 is.length c3) (.slice a4 bs.length c4) xs ys is bs w h hX hj8)
  have z0 : w.cell? ⟨dk, 0, none⟩ = some (.slice a1 xs.length c1) := hd.cell 0
  have z1 : w.cell? ⟨dk, 1, none⟩ = some (.slice a2 ys.length c2) := hd.cell 1
  have z2 : w.cell? ⟨dk, 2, none⟩ = some (.slice a3 is.length c3) := hd.cell 2
  have z3 : w.cell? ⟨dk, 3, none⟩ = some (.slice a4 bs.length c4) := hd.cell 3
  obtain ⟨r, hr⟩ : ∃ r, inoI is bs j = r := ⟨_, rfl⟩
  rw [hr] at CT ⊢
  clear h hX hd hr
  go_enter Tryz.func41, Tryz.ntmps41
  go_wp2_with fail
  refine CT.out.mono ?_
  rintro e w1 ⟨rfl, B1⟩
  have HB1 := hide B1
  clear B1
  go_wp2
  go_ret
  exact ⟨rfl, HB1.out⟩
end Go.Proofs.YtljooldjcefkoaaGreat
