/- Texts of the proof, bundled: So, Nd, Pt, Fo, Io. -/
import Derived.Test.YtggjillpfclajaaGreatU10
import Derived.Test.YtggjillpfclajaaGreatU05
import Derived.Test.YtggjillpfclajaaGreatU07
/- Pointers to leaners are sorted by place: slices.SortFunc at them. -/
namespace Go.Proofs.YtggjillpfclajaaGreat
open Go.Shelf Go.RowKit Go.Lib Go.Sort Kit
theorem sortWorld_old {α : Type} [Inhabited α] (enc : α → Value) (w : World) (blk off m : Nat) (dk : Array α) (os : Array Obj) (k : Nat) (h1 : k ≠ blk) (h2 : k < w.heap.size) : (sortWorld enc w blk off m dk os).heap[k]? = w.heap[k]? := by
  unfold sortWorld
  have hs : (putRow enc (Sort.ahead w m) blk off dk).heap.size = w.heap.size := by simp [putRow, mapBlock, Sort.ahead]
  rw [heap_grow_old _ _ (by rw [hs]; exact h2)]
  simp only [putRow, mapBlock, Sort.ahead, Array.getElem?_modify]
  rw [if_neg (fun e => h1 e.symm)]
theorem cell_old {α : Type} [Inhabited α] (enc : α → Value) (w : World) (blk off m : Nat) (dk : Array α) (os : Array Obj) (a : Addr) (h1 : a.block ≠ blk) (h2 : a.block < w.heap.size) : (sortWorld enc w blk off m dk os).cell? a = w.cell? a := by
  simp only [World.cell?, sortWorld_old enc w blk off m dk os a.block h1 h2]
theorem sortWorld_below {α : Type} [Inhabited α] (enc : α → Value) (w : World) (blk off m : Nat) (dk : Array α) (os : Array Obj) (B : Nat) (hB : B ≤ blk) (hb : blk < w.heap.size) : Below B w (sortWorld enc w blk off m dk os) := by
  refine ⟨rfl, rfl, rfl, ?_, fun k hk => sortWorld_old enc w blk off m dk os k (by omega) (by omega)⟩
  have hs : (putRow enc (Sort.ahead w m) blk off dk).heap.size = w.heap.size := by simp [putRow, mapBlock, Sort.ahead]
  unfold sortWorld
  rw [size_grow, hs]
  omega
theorem cmpI_neg (x y : Int) : (cmpI x y < 0) ↔ x < y := by
  unfold cmpI
  split
  · simp; assumption
  · split
    · simp; omega
    · simp; omega
/-- All of them, sorted by place, stand in their order. -/
theorem sorted_fin (n : Nat) (F : List (Fin n)) (hF : F.Nodup) (hall : ∀ j, j ∈ F) (le : Fin n → Fin n → Bool) (hle : ∀ i j, le i j = decide (i ≤ j)) : F.mergeSort le = List.finRange n := by
  have hp : (F.mergeSort le).Perm (List.finRange n) := (List.mergeSort_perm F le).trans ((List.perm_ext_iff_of_nodup hF (List.nodup_finRange n)).2 fun a => ⟨fun _ => List.mem_finRange a, fun _ => hall a⟩)
  refine List.Perm.eq_of_pairwise (le := fun i j => le i j = true) (fun a b _ _ h1 h2 => ?_) (List.pairwise_mergeSort (fun a b c h1 h2 => ?_) (fun a b => ?_) F) ?_ hp
  · rw [hle] at h1 h2
    have h1 := of_decide_eq_true h1
    have h2 := of_decide_eq_true h2
    exact Fin.le_antisymm h1 h2
  · rw [hle] at h1 h2 ⊢
    have h1 := of_decide_eq_true h1
    have h2 := of_decide_eq_true h2
    exact decide_eq_true (Fin.le_trans h1 h2)
  · rw [hle, hle]
    rcases Fin.le_total a b with h | h <;> simp [h]
  · exact (List.pairwise_le_finRange n).imp fun h => by rw [hle]; exact decide_eq_true h
theorem sortL_any (E : List Ln) (F : List (Fin E.length)) (blk cap : Nat) (w : World) (hc : ∀ j : Fin E.length, w.cell? ⟨E[j].b, 11, none⟩ = some (.int .i64 (E[j].pl : Int))) (hlt : ∀ j : Fin E.length, E[j].b < w.heap.size) (hne : ∀ j : Fin E.length, E[j].b ≠ blk) (hpl : ∀ i j : Fin E.length, i < j → E[i].pl < E[j].pl)
    (hF : F.Nodup) (hall : ∀ j, j ∈ F) (h0 : 0 < E.length) (hl : E.length ≤ 1048576) (hblk : blk < w.heap.size)
    (hH : ∀ (k : Nat) (h : k < F.length), w.cell? ⟨blk, k, none⟩ = some (.pointer (some ⟨E[F[k]].b, 0, none⟩)) ∧ w.frozen? ⟨blk, k, none⟩ = false) :
    Calls Tryz.prog 90 #[.slice (some ⟨blk, 0, none⟩) F.length cap, .func (.func 91) #[] #[]] w fun e w' => e = .returned (.tuple #[]) ∧ Below blk w w' ∧ (∀ k, k ≠ blk → k < w.heap.size → w'.heap[k]? = w.heap[k]?) ∧ ∀ (k : Nat) (h : k < E.length), w'.cell? ⟨blk, k, none⟩ = some (.pointer (some ⟨E[k].b, 0, none⟩)) := by
  haveI : Inhabited (Fin E.length) := ⟨⟨0, h0⟩⟩
  have hFl : F.length = E.length := by
    have := ((List.perm_ext_iff_of_nodup hF (List.nodup_finRange E.length)).2 fun a => ⟨fun _ => List.mem_finRange a, fun _ => hall a⟩).length_eq
    simpa using this
  have hlt' : ∀ i j : Fin E.length, ltOf (fun i j : Fin E.length => cmpI (E[i].pl : Int) (E[j].pl : Int)) i j = decide (i < j) := fun i j => by
    unfold ltOf
    by_cases h : i < j
    · have := hpl i j h
      rw [decide_eq_true ((cmpI_neg _ _).2 (by omega)), decide_eq_true h]
    · rw [decide_eq_false h, decide_eq_false]
      rw [cmpI_neg]
      by_cases e : i = j
      · subst e; omega
      · have := hpl j i (by omega)
        omega
  have eg : ∀ args w, (callFunc 91 args).run Tryz.prog w = .ok (.enter 91 args) w := enters_of Tryz.func91 (by kernel_rfl) rfl
  have hcon := Any.slices_SortFunc_total Tryz.sortL (fun j : Fin E.length => Value.pointer (some ⟨E[j].b, 0, none⟩)) (fun _ => rfl) (fun i j : Fin E.length => cmpI (E[i].pl : Int) (E[j].pl : Int))
    ⟨fun x => by rw [hlt']; simp, fun x y z h1 h2 => by rw [hlt'] at *; simp at *; omega, fun x y z h1 h2 => by rw [hlt'] at *; simp at *; omega⟩ 91 #[] blk 0 cap F.toArray w eg
    (CmpReads.lays fun m os dk _ x y => byPlace_any _ _ _ _ _ (by rw [cell_old _ _ _ _ _ _ _ _ (hne x) (hlt x)]; exact hc x) (by rw [cell_old _ _ _ _ _ _ _ _ (hne y) (hlt y)]; exact hc y))
    (fun k hk => by
      have hk' : k < F.length := by simpa using hk
      have := hH k hk'
      rw [Nat.zero_add]
      refine ⟨this.1.trans ?_, this.2⟩
      rw [getElem!_pos F.toArray k hk]
      rfl) hblk (by simp; omega) (fun x y h1 h2 => by rw [hlt'] at *; simp at *; omega)
  change Calls Tryz.prog 90 _ _ _ at hcon
  rw [List.size_toArray] at hcon
  refine hcon.mono ?_
  rintro e w' ⟨rfl, n, os, rfl⟩
  rw [show F.toArray.toList.mergeSort (fun x y => !(ltOf (fun i j : Fin E.length => cmpI (E[i].pl : Int) (E[j].pl : Int)) y x)) = List.finRange E.length from sorted_fin _ _ hF hall _ fun i j => by rw [hlt']; by_cases h : i ≤ j <;> simp [h] <;> omega]
  refine ⟨rfl, sortWorld_below _ _ _ _ _ _ _ _ (Nat.le_refl _) hblk, fun k h1 h2 => sortWorld_old _ _ _ _ _ _ _ k h1 h2, fun k hk => ?_⟩
  have h1 := (holds_sortWorld (fun j : Fin E.length => Value.pointer (some ⟨E[j].b, 0, none⟩)) w blk 0 n F.toArray (List.finRange E.length).toArray os hblk (fun k hk => by
      have hk' : k < F.length := by simpa using hk
      have := hH k hk'
      rw [Nat.zero_add]
      refine ⟨this.1.trans ?_, this.2⟩
      rw [getElem!_pos F.toArray k hk]
      rfl) (by simp [hFl]) k (by simpa using hk)).1
  rw [Nat.zero_add] at h1
  rw [h1, getElem!_pos _ k (by simpa using hk)]
  simp
end Go.Proofs.YtggjillpfclajaaGreat
/- impl.newDep by its contract. -/
namespace Go.Proofs.YtggjillpfclajaaGreat
open Go.RowKit Kit
set_option maxRecDepth 100000 in
set_option maxHeartbeats 1600000 in
theorem newDep_any (id kd io pt bk sl : Int) (nm : ByteArray) (bt ot : Bool) (af : Int) (bl : List Int) (p : Value) (w : World) (hv : RInts w p bl) (hl : bl.length ≤ 1048576) (hn : nm.size ≤ 1048576) :
    Calls Tryz.prog 72 #[.agg #[.int .i64 id, .int .i64 kd, .int .i64 io, .int .i64 pt, .int .i64 bk, .int .i64 sl, .string nm, .bool bt, .bool ot, .int .i64 af, p]] w fun e w' => ∃ u, e = .returned (.agg #[.int .i64 id, .int .i64 kd, .int .i64 io, .int .i64 pt, .int .i64 bk, .int .i64 sl, .string nm, .bool bt, .bool ot, .int .i64 af, u]) ∧ ROwns w' w.heap.size 3 u (ic bl) ∧ Below w.heap.size w w' := by
  have HV := hide hv
  obtain ⟨a, c, rfl⟩ := hv.form
  clear hv
  go_enter Tryz.func72, Tryz.ntmps72
  go_wp2_with fail
  refine (clone_any nm _ (Nat.le_trans hn (by decide))).mono ?_
  rintro e w1 ⟨rfl, B1⟩
  have K0 : AtC w1 w.heap.size 52 #[.int .i64 id, .int .i64 kd, .int .i64 io, .int .i64 pt, .int .i64 bk, .int .i64 sl, .string nm, .bool bt, .bool ot, .int .i64 af, .slice a bl.length c] := ((AtC.new w 52 _).alloc _).over B1
  have K1 : AtC w1 (w.heap.size + 1) 52 #[.int .i64 0, .int .i64 0, .int .i64 0, .int .i64 0, .int .i64 0, .int .i64 0, .string ⟨#[]⟩, .bool false, .bool false, .int .i64 0, .slice none 0 0] := by
    have := (AtC.new (w.alloc (.cells #[.int .i64 id, .int .i64 kd, .int .i64 io, .int .i64 pt, .int .i64 bk, .int .i64 sl, .string nm, .bool bt, .bool ot, .int .i64 af, .slice a bl.length c] 52)) 52 #[.int .i64 0, .int .i64 0, .int .i64 0, .int .i64 0, .int .i64 0, .int .i64 0, .string ⟨#[]⟩, .bool false, .bool false, .int .i64 0, .slice none 0 0]).over B1
    simpa using this
  have BW : Below w.heap.size w w1 := (((Below.refl _ w).alloc (Nat.le_refl _) _).alloc (by simp) _).trans (B1.mono (by simp; omega))
  have hs1 : w.heap.size + 1 + 1 ≤ w1.heap.size := by have := B1.size; simpa using this
  have p6 : w1.cell? ⟨w.heap.size, 6, none⟩ = some (.string nm) := K0.cell 6
  have y6 := K0.frozen 6
  have HK : Hid (AtC (w1.setCell ⟨w.heap.size, 6, none⟩ (.string nm)) w.heap.size 52 #[.int .i64 id, .int .i64 kd, .int .i64 io, .int .i64 pt, .int .i64 bk, .int .i64 sl, .string nm, .bool bt, .bool ot, .int .i64 af, .slice a bl.length c] ∧ AtC (w1.setCell ⟨w.heap.size, 6, none⟩ (.string nm)) (w.heap.size + 1) 52 #[.int .i64 0, .int .i64 0, .int .i64 0, .int .i64 0, .int .i64 0, .int .i64 0, .string ⟨#[]⟩, .bool false, .bool false, .int .i64 0, .slice none 0 0] ∧ Below w.heap.size w (w1.setCell ⟨w.heap.size, 6, none⟩ (.string nm))) := ⟨K0.set 6 (.string nm), K1.other (by omega) _, BW.setCell (by simp) _⟩
  obtain ⟨W1, hW1⟩ : ∃ W1, w1.setCell ⟨w.heap.size, 6, none⟩ (.string nm) = W1 := ⟨_, rfl⟩
  have hsz1 : W1.heap.size = w1.heap.size := by rw [← hW1]; simp
  rw [hW1] at HK
  have r10 : W1.cell? ⟨w.heap.size, 10, none⟩ = some (.slice a bl.length c) := HK.out.1.cell 10
  clear B1 K0 K1 BW
  go_wp2_with fail
  refine (newI_any _ bl _ (HV.out.below HK.out.2.2 (Nat.le_refl _)) hl).mono ?_
  rintro e w2 ⟨u, rfl, O2, B2⟩
  obtain ⟨a1, c1, rfl⟩ := O2.rints.form
  have L0 := HK.out.1.over B2
  have L1 := HK.out.2.1.over B2
  have O3 : ROwns w2 (w.heap.size + 1 + 1) 3 (.slice a1 bl.length c1) (ic bl) := O2.base_le (by omega)
  have B3 := HK.out.2.2.trans (B2.mono HK.out.2.2.size)
  have d0 : w2.cell? ⟨w.heap.size, 0, none⟩ = some (.int .i64 id) := L0.cell 0
  have d1 : w2.cell? ⟨w.heap.size, 1, none⟩ = some (.int .i64 kd) := L0.cell 1
  have d2 : w2.cell? ⟨w.heap.size, 2, none⟩ = some (.int .i64 io) := L0.cell 2
  have d3 : w2.cell? ⟨w.heap.size, 3, none⟩ = some (.int .i64 pt) := L0.cell 3
  have d4 : w2.cell? ⟨w.heap.size, 4, none⟩ = some (.int .i64 bk) := L0.cell 4
  have d5 : w2.cell? ⟨w.heap.size, 5, none⟩ = some (.int .i64 sl) := L0.cell 5
  have d6 : w2.cell? ⟨w.heap.size, 6, none⟩ = some (.string nm) := L0.cell 6
  have d7 : w2.cell? ⟨w.heap.size, 7, none⟩ = some (.bool bt) := L0.cell 7
  have d8 : w2.cell? ⟨w.heap.size, 8, none⟩ = some (.bool ot) := L0.cell 8
  have d9 : w2.cell? ⟨w.heap.size, 9, none⟩ = some (.int .i64 af) := L0.cell 9
  have d10 : w2.cell? ⟨w.heap.size, 10, none⟩ = some (.slice a bl.length c) := L0.cell 10
  have q0 : w2.cell? ⟨w.heap.size + 1, 0, none⟩ = some (.int .i64 0) := L1.cell 0
  have z0 := L1.frozen 0
  have q1 : w2.cell? ⟨w.heap.size + 1, 1, none⟩ = some (.int .i64 0) := L1.cell 1
  have z1 := L1.frozen 1
  have q2 : w2.cell? ⟨w.heap.size + 1, 2, none⟩ = some (.int .i64 0) := L1.cell 2
  have z2 := L1.frozen 2
  have q3 : w2.cell? ⟨w.heap.size + 1, 3, none⟩ = some (.int .i64 0) := L1.cell 3
  have z3 := L1.frozen 3
  have q4 : w2.cell? ⟨w.heap.size + 1, 4, none⟩ = some (.int .i64 0) := L1.cell 4
  have z4 := L1.frozen 4
  have q5 : w2.cell? ⟨w.heap.size + 1, 5, none⟩ = some (.int .i64 0) := L1.cell 5
  have z5 := L1.frozen 5
  have q6 : w2.cell? ⟨w.heap.size + 1, 6, none⟩ = some (.string ⟨#[]⟩) := L1.cell 6
  have z6 := L1.frozen 6
  have q7 : w2.cell? ⟨w.heap.size + 1, 7, none⟩ = some (.bool false) := L1.cell 7
  have z7 := L1.frozen 7
  have q8 : w2.cell? ⟨w.heap.size + 1, 8, none⟩ = some (.bool false) := L1.cell 8
  have z8 := L1.frozen 8
  have q9 : w2.cell? ⟨w.heap.size + 1, 9, none⟩ = some (.int .i64 0) := L1.cell 9
  have z9 := L1.frozen 9
  have q10 : w2.cell? ⟨w.heap.size + 1, 10, none⟩ = some (.slice none 0 0) := L1.cell 10
  have z10 := L1.frozen 10
  have y10 := L0.frozen 10
  have HO := hide O3
  have HB := hide B3
  clear O2 O3 B2 B3 L0 L1 HK r10 p6 y6 hW1 hsz1
  go_wp2
  refine bodyPost_ret (v := .agg #[.int .i64 id, .int .i64 kd, .int .i64 io, .int .i64 pt, .int .i64 bk, .int .i64 sl, .string nm, .bool bt, .bool ot, .int .i64 af, .slice a1 bl.length c1]) (by simp [results, go_sem, q0, q1, q2, q3, q4, q5, q6, q7, q8, q9, q10]) rfl ⟨_, rfl, ?_, ?_⟩
  · exact ((((((((((((HO.out.setCell_other (by omega) _).setCell_other (by omega) _).setCell_other (by omega) _).setCell_other (by omega) _).setCell_other (by omega) _).setCell_other (by omega) _).setCell_other (by omega) _).setCell_other (by omega) _).setCell_other (by omega) _).setCell_other (by omega) _).setCell_other (by omega) _).setCell_other (by omega) _).base_le (by omega)
  · exact ((((((((((((HB.out.setCell (by simp) _).setCell (by simp) _).setCell (by simp) _).setCell (by simp) _).setCell (by simp) _).setCell (by simp) _).setCell (by simp) _).setCell (by simp) _).setCell (by simp) _).setCell (by simp) _).setCell (by simp) _).setCell (by simp) _)
end Go.Proofs.YtggjillpfclajaaGreat
/- A leaner is put: leaners.put by its contract. -/
namespace Go.Proofs.YtggjillpfclajaaGreat.Kit
open Go.RowKit Go.Maps
theorem lnRow_mk (d : Dp) (p : Value) (pl : Nat) (o : Option Nat) : lnRow d p pl o = #[.int .i64 d.id, .int .i64 d.kd, .int .i64 d.io, .int .i64 d.pt, .int .i64 d.bk, .int .i64 d.sl, .string d.nm, .bool d.bt, .bool d.ot, .int .i64 d.af, p, .int .i64 (pl : Int), ptrV o] := rfl
/-- One that leans, copied. -/
def MkPv (k : Nat) (d : Dp) : Mk := .val [k] (fun lo hi w v => ∃ a c, v = .agg (d.row (.slice a d.bl.length c)).toArray ∧ ROwns w lo 3 (.slice a d.bl.length c) (ic d.bl) ∧ ∀ i, (Value.slice a d.bl.length c).ownBlock = some i → i < hi)
  (fun _ _ _ _ _ h hb => by obtain ⟨a, c, h1, h2, h3⟩ := h; exact ⟨a, c, h1, h2.below hb (Nat.le_refl _), h3⟩)
/-- A leaner built. -/
def MkPl (k i j : Nat) (d : Dp) (pl : Nat) (o : Option Nat) : Mk := ⟨[k, i, j], fun _ _ _ v x => ∃ a c, x k = .agg (d.row (.slice a d.bl.length c)).toArray ∧ v = .agg (lnRow d (.slice a d.bl.length c) pl o), fun _ _ _ _ _ _ h _ => h, fun _ _ _ _ x x' e h => by
  obtain ⟨a, c, h1, h2⟩ := h
  exact ⟨a, c, by rw [← e k (by simp), h1], h2⟩⟩
/-- A leaner in a block. -/
def MkPb (k : Nat) (d : Dp) (pl : Nat) (o : Option Nat) : Mk := .val1 [k] k (by simp) (fun lo hi w u v => v = .pointer (some ⟨lo, 0, none⟩) ∧ hi = lo + 1 ∧ ∃ a c, u = .agg (lnRow d (.slice a d.bl.length c) pl o) ∧ AtC w lo 101 (lnRow d (.slice a d.bl.length c) pl o))
  (fun _ _ _ _ _ _ h hb => by obtain ⟨h1, h2, a, c, h3, h4⟩ := h; exact ⟨h1, h2, a, c, h3, h4.over hb⟩)
end Go.Proofs.YtggjillpfclajaaGreat.Kit
namespace Go.Proofs.YtggjillpfclajaaGreat
open Go.RowKit Kit Go.Maps
theorem Tryz.u3 : Tryz.prog.underlying 3 = some (.int .i64) := by kernel_rfl
theorem Tryz.u78 : Tryz.prog.underlying 78 = some (.map 3 98) := by kernel_rfl
theorem Tryz.z98 (w : World) : (zeroValue 98).run Tryz.prog w = .ok (.pointer none) w := by kernel_rfl
set_option maxRecDepth 100000 in
set_option maxHeartbeats 1600000 in
theorem put_any (L B : Nat) (E : List Ln) (ps : List Value) (pl : Nat) (id kd io pt bk sl : Int) (nm : ByteArray) (bt ot : Bool) (af : Int) (bl : List Int) (p : Value) (w : World) (h : LE Tryz.prog w L B E ps) (hv : RInts w p bl) (hl : bl.length ≤ 1048576) (hn : nm.size ≤ 1048576) (hw : (Lit.int .i64 id).wf = true) (hE : E.length < 1048576) (hL : L ≤ w.heap.size) :
    Calls Tryz.prog 48 #[.map (some B), .agg #[.int .i64 id, .int .i64 kd, .int .i64 io, .int .i64 pt, .int .i64 bk, .int .i64 sl, .string nm, .bool bt, .bool ot, .int .i64 af, p], .int .i64 (pl : Int)] w fun e w' => e = .returned (.tuple #[]) ∧ ∃ g u, LE Tryz.prog w' L B (E ++ [⟨pl, (⟨id, kd, io, pt, bk, sl, nm, bt, ot, af, bl⟩ : Dp), g⟩]) (ps ++ [u]) ∧ w.grownBy w' (some B) := by
  have H := hide h
  have HV := hide hv
  have HW := hide hw
  have HE := hide hE
  have HL := hide hL
  obtain ⟨a, c, rfl⟩ := hv.form
  clear h hv hw hE hL
  go_enter Tryz.func48, Tryz.ntmps48
  go_wp2_with fail
  have HC : Hid (∀ W, Below (w.alloc (.cells #[.int .i64 id, .int .i64 kd, .int .i64 io, .int .i64 pt, .int .i64 bk, .int .i64 sl, .string nm, .bool bt, .bool ot, .int .i64 af, .slice a bl.length c] 52)).drew.heap.size (w.alloc (.cells #[.int .i64 id, .int .i64 kd, .int .i64 io, .int .i64 pt, .int .i64 bk, .int .i64 sl, .string nm, .bool bt, .bool ot, .int .i64 af, .slice a bl.length c] 52)).drew W → AtC W w.heap.size 52 #[.int .i64 id, .int .i64 kd, .int .i64 io, .int .i64 pt, .int .i64 bk, .int .i64 sl, .string nm, .bool bt, .bool ot, .int .i64 af, .slice a bl.length c] ∧ Below w.heap.size w W ∧ w.heap.size + 1 ≤ W.heap.size) := fun W b => by
    have b2 := of_drew b
    have sz := b2.size
    simp at sz
    exact ⟨(AtC.new w 52 _).over b2, ((Below.refl _ w).alloc (Nat.le_refl _) _).trans (b2.mono (by simp)), sz⟩
  refine wp_region_frm (by kernel_rfl) [0, 1, 2, 3, 4, 5, 6, 7, 8, 9, 10, 11] [12] (fun i => match i with | 0 => .const [] (.map (some B)) | 1 => .const [] (.pointer (some ⟨w.heap.size, 0, none⟩)) | 2 => .const [1] (.int .i64 id) | 3 => .const [] (.agg #[.int .i64 id, .int .i64 kd, .int .i64 io, .int .i64 pt, .int .i64 bk, .int .i64 sl, .string nm, .bool bt, .bool ot, .int .i64 af, .slice a bl.length c]) | 4 => MkPv 3 (⟨id, kd, io, pt, bk, sl, nm, bt, ot, af, bl⟩ : Dp) | 5 => .const [] (.int .i64 (pl : Int)) | 6 => .const [] (.map (some B)) | 7 => .const [] (.pointer (some ⟨w.heap.size, 0, none⟩)) | 8 => .const [7] (.int .i64 id) | 9 => .const [6, 8] (ptrV (lastP id E)) | 10 => MkPl 4 5 9 (⟨id, kd, io, pt, bk, sl, nm, bt, ot, af, bl⟩ : Dp) pl (lastP id E) | 11 => MkPb 10 (⟨id, kd, io, pt, bk, sl, nm, bt, ot, af, bl⟩ : Dp) pl (lastP id E) | _ => .triv) (fun x => ⟨#[Value.map (some B), Value.agg #[Value.int IntKind.i64 id, Value.int IntKind.i64 kd, Value.int IntKind.i64 io, Value.int IntKind.i64 pt, Value.int IntKind.i64 bk, Value.int IntKind.i64 sl, Value.string nm, Value.bool bt, Value.bool ot, Value.int IntKind.i64 af, Value.slice a bl.length c], Value.int IntKind.i64 ↑pl, undef, Value.pointer (some { block := w.heap.size, off := 0 }), undef, x 0, x 1, x 2, x 3, x 4, x 5, x 6, x 7, x 8, x 9, x 10, x 11], []⟩) (fun i => match i with | 0 => undef | 1 => undef | 2 => undef | 3 => undef | 4 => undef | 5 => undef | 6 => undef | 7 => undef | 8 => undef | 9 => undef | 10 => undef | 11 => undef | _ => undef) rfl (by kernel_rfl) (by kernel_rfl) (by kernel_rfl) rfl ?_ ?_
  · intro jo hj so x iw W hd hp K hK
    simp only [List.mem_cons, List.not_mem_nil, or_false] at hj
    rcases hj with rfl | rfl | rfl | rfl | rfl | rfl | rfl | rfl | rfl | rfl | rfl | rfl
    · refine wpOp_step (o := _) rfl fun K' hK' => ?_
      have HK : Hid (∀ v W', Below W.heap.size W W' → ((Mk.const [] (.map (some B)) : Mk)).P W.heap.size W'.heap.size W' v (upd x 0 v) → K' ⟨#[Value.map (some B), Value.agg #[Value.int IntKind.i64 id, Value.int IntKind.i64 kd, Value.int IntKind.i64 io, Value.int IntKind.i64 pt, Value.int IntKind.i64 bk, Value.int IntKind.i64 sl, Value.string nm, Value.bool bt, Value.bool ot, Value.int IntKind.i64 af, Value.slice a bl.length c], Value.int IntKind.i64 ↑pl, undef, Value.pointer (some { block := w.heap.size, off := 0 }), undef, v, x 1, x 2, x 3, x 4, x 5, x 6, x 7, x 8, x 9, x 10, x 11], []⟩ W') := fun v W' h1 h2 => hK' _ _ (hK v W' h1 h2)
      clear hK hK' hp hd
      go_simp
      exact HK.out _ _ (Below.refl _ _) rfl
    · refine wpOp_step (o := _) rfl fun K' hK' => ?_
      have HK : Hid (∀ v W', Below W.heap.size W W' → ((Mk.const [] (.pointer (some ⟨w.heap.size, 0, none⟩)) : Mk)).P W.heap.size W'.heap.size W' v (upd x 1 v) → K' ⟨#[Value.map (some B), Value.agg #[Value.int IntKind.i64 id, Value.int IntKind.i64 kd, Value.int IntKind.i64 io, Value.int IntKind.i64 pt, Value.int IntKind.i64 bk, Value.int IntKind.i64 sl, Value.string nm, Value.bool bt, Value.bool ot, Value.int IntKind.i64 af, Value.slice a bl.length c], Value.int IntKind.i64 ↑pl, undef, Value.pointer (some { block := w.heap.size, off := 0 }), undef, x 0, v, x 2, x 3, x 4, x 5, x 6, x 7, x 8, x 9, x 10, x 11], []⟩ W') := fun v W' h1 h2 => hK' _ _ (hK v W' h1 h2)
      clear hK hK' hp hd
      go_simp
      exact HK.out _ _ (Below.refl _ _) rfl
    · refine wpOp_step (o := _) rfl fun K' hK' => ?_
      have HK : Hid (∀ v W', Below W.heap.size W W' → ((Mk.const [1] (.int .i64 id) : Mk)).P W.heap.size W'.heap.size W' v (upd x 2 v) → K' ⟨#[Value.map (some B), Value.agg #[Value.int IntKind.i64 id, Value.int IntKind.i64 kd, Value.int IntKind.i64 io, Value.int IntKind.i64 pt, Value.int IntKind.i64 bk, Value.int IntKind.i64 sl, Value.string nm, Value.bool bt, Value.bool ot, Value.int IntKind.i64 af, Value.slice a bl.length c], Value.int IntKind.i64 ↑pl, undef, Value.pointer (some { block := w.heap.size, off := 0 }), undef, x 0, x 1, v, x 3, x 4, x 5, x 6, x 7, x 8, x 9, x 10, x 11], []⟩ W') := fun v W' h1 h2 => hK' _ _ (hK v W' h1 h2)
      have e1 : x 1 = .pointer (some ⟨w.heap.size, 0, none⟩) := hp.post 1 (hd 1 (show 1 ∈ [1] from by decide))
      have q0 : W.cell? ⟨w.heap.size, 0, none⟩ = some (.int .i64 id) := (HC.out W hp.bel).1.cell 0
      clear hK hK' hp hd
      simp only [e1] at HK ⊢
      go_simp
      exact HK.out _ _ (Below.refl _ _) rfl
    · refine wpOp_step (o := _) rfl fun K' hK' => ?_
      have HK : Hid (∀ v W', Below W.heap.size W W' → ((Mk.const [] (.agg #[.int .i64 id, .int .i64 kd, .int .i64 io, .int .i64 pt, .int .i64 bk, .int .i64 sl, .string nm, .bool bt, .bool ot, .int .i64 af, .slice a bl.length c]) : Mk)).P W.heap.size W'.heap.size W' v (upd x 3 v) → K' ⟨#[Value.map (some B), Value.agg #[Value.int IntKind.i64 id, Value.int IntKind.i64 kd, Value.int IntKind.i64 io, Value.int IntKind.i64 pt, Value.int IntKind.i64 bk, Value.int IntKind.i64 sl, Value.string nm, Value.bool bt, Value.bool ot, Value.int IntKind.i64 af, Value.slice a bl.length c], Value.int IntKind.i64 ↑pl, undef, Value.pointer (some { block := w.heap.size, off := 0 }), undef, x 0, x 1, x 2, v, x 4, x 5, x 6, x 7, x 8, x 9, x 10, x 11], []⟩ W') := fun v W' h1 h2 => hK' _ _ (hK v W' h1 h2)
      have k0 := (HC.out W hp.bel).1
      have q0 : W.cell? ⟨w.heap.size, 0, none⟩ = some (.int .i64 id) := k0.cell 0
      have q1 : W.cell? ⟨w.heap.size, 1, none⟩ = some (.int .i64 kd) := k0.cell 1
      have q2 : W.cell? ⟨w.heap.size, 2, none⟩ = some (.int .i64 io) := k0.cell 2
      have q3 : W.cell? ⟨w.heap.size, 3, none⟩ = some (.int .i64 pt) := k0.cell 3
      have q4 : W.cell? ⟨w.heap.size, 4, none⟩ = some (.int .i64 bk) := k0.cell 4
      have q5 : W.cell? ⟨w.heap.size, 5, none⟩ = some (.int .i64 sl) := k0.cell 5
      have q6 : W.cell? ⟨w.heap.size, 6, none⟩ = some (.string nm) := k0.cell 6
      have q7 : W.cell? ⟨w.heap.size, 7, none⟩ = some (.bool bt) := k0.cell 7
      have q8 : W.cell? ⟨w.heap.size, 8, none⟩ = some (.bool ot) := k0.cell 8
      have q9 : W.cell? ⟨w.heap.size, 9, none⟩ = some (.int .i64 af) := k0.cell 9
      have q10 : W.cell? ⟨w.heap.size, 10, none⟩ = some (.slice a bl.length c) := k0.cell 10
      clear k0
      clear hK hK' hp hd
      go_simp
      exact HK.out _ _ (Below.refl _ _) rfl
    · refine wpOp_step (o := _) rfl fun K' hK' => ?_
      have HK : Hid (∀ v W', Below W.heap.size W W' → (MkPv 3 (⟨id, kd, io, pt, bk, sl, nm, bt, ot, af, bl⟩ : Dp)).P W.heap.size W'.heap.size W' v (upd x 4 v) → K' ⟨#[Value.map (some B), Value.agg #[Value.int IntKind.i64 id, Value.int IntKind.i64 kd, Value.int IntKind.i64 io, Value.int IntKind.i64 pt, Value.int IntKind.i64 bk, Value.int IntKind.i64 sl, Value.string nm, Value.bool bt, Value.bool ot, Value.int IntKind.i64 af, Value.slice a bl.length c], Value.int IntKind.i64 ↑pl, undef, Value.pointer (some { block := w.heap.size, off := 0 }), undef, x 0, x 1, x 2, x 3, v, x 5, x 6, x 7, x 8, x 9, x 10, x 11], []⟩ W') := fun v W' h1 h2 => hK' _ _ (hK v W' h1 h2)
      have e3 : x 3 = .agg #[.int .i64 id, .int .i64 kd, .int .i64 io, .int .i64 pt, .int .i64 bk, .int .i64 sl, .string nm, .bool bt, .bool ot, .int .i64 af, .slice a bl.length c] := hp.post 3 (hd 3 (show 3 ∈ [3] from by decide))
      have bl1 := (HC.out W hp.bel).2.1
      clear hK hK' hp hd
      simp only [e3] at HK ⊢
      go_simp
      refine (newDep_any id kd io pt bk sl nm bt ot af bl _ W (HV.out.below bl1 (Nat.le_refl _)) hl hn).mono ?_
      rintro e w6 ⟨u, rfl, O6, B6⟩
      obtain ⟨b1, d1, rfl⟩ := O6.rints.form
      go_simp
      exact HK.out _ _ B6 ⟨b1, d1, rfl, O6, fun i hi => (O6.lt i hi).2⟩
    · refine wpOp_step (o := _) rfl fun K' hK' => ?_
      have HK : Hid (∀ v W', Below W.heap.size W W' → ((Mk.const [] (.int .i64 (pl : Int)) : Mk)).P W.heap.size W'.heap.size W' v (upd x 5 v) → K' ⟨#[Value.map (some B), Value.agg #[Value.int IntKind.i64 id, Value.int IntKind.i64 kd, Value.int IntKind.i64 io, Value.int IntKind.i64 pt, Value.int IntKind.i64 bk, Value.int IntKind.i64 sl, Value.string nm, Value.bool bt, Value.bool ot, Value.int IntKind.i64 af, Value.slice a bl.length c], Value.int IntKind.i64 ↑pl, undef, Value.pointer (some { block := w.heap.size, off := 0 }), undef, x 0, x 1, x 2, x 3, x 4, v, x 6, x 7, x 8, x 9, x 10, x 11], []⟩ W') := fun v W' h1 h2 => hK' _ _ (hK v W' h1 h2)
      clear hK hK' hp hd
      go_simp
      exact HK.out _ _ (Below.refl _ _) rfl
    · refine wpOp_step (o := _) rfl fun K' hK' => ?_
      have HK : Hid (∀ v W', Below W.heap.size W W' → ((Mk.const [] (.map (some B)) : Mk)).P W.heap.size W'.heap.size W' v (upd x 6 v) → K' ⟨#[Value.map (some B), Value.agg #[Value.int IntKind.i64 id, Value.int IntKind.i64 kd, Value.int IntKind.i64 io, Value.int IntKind.i64 pt, Value.int IntKind.i64 bk, Value.int IntKind.i64 sl, Value.string nm, Value.bool bt, Value.bool ot, Value.int IntKind.i64 af, Value.slice a bl.length c], Value.int IntKind.i64 ↑pl, undef, Value.pointer (some { block := w.heap.size, off := 0 }), undef, x 0, x 1, x 2, x 3, x 4, x 5, v, x 7, x 8, x 9, x 10, x 11], []⟩ W') := fun v W' h1 h2 => hK' _ _ (hK v W' h1 h2)
      clear hK hK' hp hd
      go_simp
      exact HK.out _ _ (Below.refl _ _) rfl
    · refine wpOp_step (o := _) rfl fun K' hK' => ?_
      have HK : Hid (∀ v W', Below W.heap.size W W' → ((Mk.const [] (.pointer (some ⟨w.heap.size, 0, none⟩)) : Mk)).P W.heap.size W'.heap.size W' v (upd x 7 v) → K' ⟨#[Value.map (some B), Value.agg #[Value.int IntKind.i64 id, Value.int IntKind.i64 kd, Value.int IntKind.i64 io, Value.int IntKind.i64 pt, Value.int IntKind.i64 bk, Value.int IntKind.i64 sl, Value.string nm, Value.bool bt, Value.bool ot, Value.int IntKind.i64 af, Value.slice a bl.length c], Value.int IntKind.i64 ↑pl, undef, Value.pointer (some { block := w.heap.size, off := 0 }), undef, x 0, x 1, x 2, x 3, x 4, x 5, x 6, v, x 8, x 9, x 10, x 11], []⟩ W') := fun v W' h1 h2 => hK' _ _ (hK v W' h1 h2)
      clear hK hK' hp hd
      go_simp
      exact HK.out _ _ (Below.refl _ _) rfl
    · refine wpOp_step (o := _) rfl fun K' hK' => ?_
      have HK : Hid (∀ v W', Below W.heap.size W W' → ((Mk.const [7] (.int .i64 id) : Mk)).P W.heap.size W'.heap.size W' v (upd x 8 v) → K' ⟨#[Value.map (some B), Value.agg #[Value.int IntKind.i64 id, Value.int IntKind.i64 kd, Value.int IntKind.i64 io, Value.int IntKind.i64 pt, Value.int IntKind.i64 bk, Value.int IntKind.i64 sl, Value.string nm, Value.bool bt, Value.bool ot, Value.int IntKind.i64 af, Value.slice a bl.length c], Value.int IntKind.i64 ↑pl, undef, Value.pointer (some { block := w.heap.size, off := 0 }), undef, x 0, x 1, x 2, x 3, x 4, x 5, x 6, x 7, v, x 9, x 10, x 11], []⟩ W') := fun v W' h1 h2 => hK' _ _ (hK v W' h1 h2)
      have e7 : x 7 = .pointer (some ⟨w.heap.size, 0, none⟩) := hp.post 7 (hd 7 (show 7 ∈ [7] from by decide))
      have q0 : W.cell? ⟨w.heap.size, 0, none⟩ = some (.int .i64 id) := (HC.out W hp.bel).1.cell 0
      clear hK hK' hp hd
      simp only [e7] at HK ⊢
      go_simp
      exact HK.out _ _ (Below.refl _ _) rfl
    · refine wpOp_step (o := _) rfl fun K' hK' => ?_
      have HK : Hid (∀ v W', Below W.heap.size W W' → ((Mk.const [6, 8] (ptrV (lastP id E)) : Mk)).P W.heap.size W'.heap.size W' v (upd x 9 v) → K' ⟨#[Value.map (some B), Value.agg #[Value.int IntKind.i64 id, Value.int IntKind.i64 kd, Value.int IntKind.i64 io, Value.int IntKind.i64 pt, Value.int IntKind.i64 bk, Value.int IntKind.i64 sl, Value.string nm, Value.bool bt, Value.bool ot, Value.int IntKind.i64 af, Value.slice a bl.length c], Value.int IntKind.i64 ↑pl, undef, Value.pointer (some { block := w.heap.size, off := 0 }), undef, x 0, x 1, x 2, x 3, x 4, x 5, x 6, x 7, x 8, v, x 10, x 11], []⟩ W') := fun v W' h1 h2 => hK' _ _ (hK v W' h1 h2)
      have e6 : x 6 = .map (some B) := hp.post 6 (hd 6 (show 6 ∈ [6, 8] from by decide))
      have e8 : x 8 = .int .i64 id := hp.post 8 (hd 8 (show 8 ∈ [6, 8] from by decide))
      have lk := (H.out.below (HC.out W hp.bel).2.1).look Tryz.u3 Tryz.u78 Tryz.z98 HW.out
      clear hK hK' hp hd
      simp only [e6, e8] at HK ⊢
      go_simp
      exact HK.out _ _ (Below.refl _ _) rfl
    · refine wpOp_step (o := _) rfl fun K' hK' => ?_
      have HK : Hid (∀ v W', Below W.heap.size W W' → (MkPl 4 5 9 (⟨id, kd, io, pt, bk, sl, nm, bt, ot, af, bl⟩ : Dp) pl (lastP id E)).P W.heap.size W'.heap.size W' v (upd x 10 v) → K' ⟨#[Value.map (some B), Value.agg #[Value.int IntKind.i64 id, Value.int IntKind.i64 kd, Value.int IntKind.i64 io, Value.int IntKind.i64 pt, Value.int IntKind.i64 bk, Value.int IntKind.i64 sl, Value.string nm, Value.bool bt, Value.bool ot, Value.int IntKind.i64 af, Value.slice a bl.length c], Value.int IntKind.i64 ↑pl, undef, Value.pointer (some { block := w.heap.size, off := 0 }), undef, x 0, x 1, x 2, x 3, x 4, x 5, x 6, x 7, x 8, x 9, v, x 11], []⟩ W') := fun v W' h1 h2 => hK' _ _ (hK v W' h1 h2)
      have e4 : ∃ a c, x 4 = .agg ((⟨id, kd, io, pt, bk, sl, nm, bt, ot, af, bl⟩ : Dp).row (.slice a (⟨id, kd, io, pt, bk, sl, nm, bt, ot, af, bl⟩ : Dp).bl.length c)).toArray ∧ ROwns W (iw 4).1 3 (.slice a (⟨id, kd, io, pt, bk, sl, nm, bt, ot, af, bl⟩ : Dp).bl.length c) (ic (⟨id, kd, io, pt, bk, sl, nm, bt, ot, af, bl⟩ : Dp).bl) ∧ ∀ i, (Value.slice a (⟨id, kd, io, pt, bk, sl, nm, bt, ot, af, bl⟩ : Dp).bl.length c).ownBlock = some i → i < (iw 4).2 := hp.post 4 (hd 4 (show 4 ∈ [4, 5, 9] from by decide))
      have e5 : x 5 = .int .i64 (pl : Int) := hp.post 5 (hd 5 (show 5 ∈ [4, 5, 9] from by decide))
      have e9 : x 9 = ptrV (lastP id E) := hp.post 9 (hd 9 (show 9 ∈ [4, 5, 9] from by decide))
      clear hK hK' hp hd
      obtain ⟨b1, d1, e4, -⟩ := e4
      have HE4 := hide e4
      have HL4 : Hid (∀ o, lastP id E = o → lastP id E = o) := fun _ h => h
      rw [e4, e5, e9] at HK ⊢
      clear e4 e5 e9
      generalize lastP id E = o at HK ⊢
      cases o <;> simp only [ptrV, Dp.row] at HK ⊢ <;> go_simp <;> exact HK.out _ _ (Below.refl _ _) ⟨b1, d1, by rw [upd_ne _ _ _ _ (by decide)]; exact HE4.out, rfl⟩
    · refine wpOp_step (o := _) rfl fun K' hK' => ?_
      have HK : Hid (∀ v W', Below W.heap.size W W' → (MkPb 10 (⟨id, kd, io, pt, bk, sl, nm, bt, ot, af, bl⟩ : Dp) pl (lastP id E)).P W.heap.size W'.heap.size W' v (upd x 11 v) → K' ⟨#[Value.map (some B), Value.agg #[Value.int IntKind.i64 id, Value.int IntKind.i64 kd, Value.int IntKind.i64 io, Value.int IntKind.i64 pt, Value.int IntKind.i64 bk, Value.int IntKind.i64 sl, Value.string nm, Value.bool bt, Value.bool ot, Value.int IntKind.i64 af, Value.slice a bl.length c], Value.int IntKind.i64 ↑pl, undef, Value.pointer (some { block := w.heap.size, off := 0 }), undef, x 0, x 1, x 2, x 3, x 4, x 5, x 6, x 7, x 8, x 9, x 10, v], []⟩ W') := fun v W' h1 h2 => hK' _ _ (hK v W' h1 h2)
      have e10 : ∃ a c, x 4 = .agg ((⟨id, kd, io, pt, bk, sl, nm, bt, ot, af, bl⟩ : Dp).row (.slice a (⟨id, kd, io, pt, bk, sl, nm, bt, ot, af, bl⟩ : Dp).bl.length c)).toArray ∧ x 10 = .agg (lnRow (⟨id, kd, io, pt, bk, sl, nm, bt, ot, af, bl⟩ : Dp) (.slice a (⟨id, kd, io, pt, bk, sl, nm, bt, ot, af, bl⟩ : Dp).bl.length c) pl (lastP id E)) := hp.post 10 (hd 10 (show 10 ∈ [10] from by decide))
      clear hK hK' hp hd
      obtain ⟨b1, d1, -, e10⟩ := e10
      have HE4 := hide e10
      simp only [e10] at HK ⊢
      clear e10
      generalize lastP id E = o at *
      cases o <;> simp only [ptrV, lnRow] at HK ⊢ <;> go_simp <;> exact HK.out _ _ ((Below.refl _ W).alloc (Nat.le_refl _) _) ⟨rfl, by simp, b1, d1, by rw [upd_ne _ _ _ _ (by decide)]; exact HE4.out, AtC.new W 101 _⟩
  · intro x iw W hp
    have e0 : x 0 = .map (some B) := hp.post 0 (by decide)
    have e2 : x 2 = .int .i64 id := hp.post 2 (by decide)
    obtain ⟨b1, d1, e4, O4, lt4⟩ := hp.post 4 (by decide)
    obtain ⟨b2, d2, k4, e10⟩ := hp.post 10 (by decide)
    obtain ⟨e11, z11, b3, d3, k10, A11⟩ := hp.post 11 (by decide)
    rw [e4] at k4
    rw [e10] at k10
    simp only [Dp.row, lnRow_mk, Value.agg.injEq, Array.mk.injEq, List.cons.injEq, Value.slice.injEq, true_and, and_true] at k4 k10
    obtain ⟨rfl, rfl⟩ := k4
    obtain ⟨rfl, rfl⟩ := k10
    have p411 := hp.apart 4 (by decide) 11 (by decide) (by decide)
    have l4 := hp.lo 4 (by decide)
    have l11 := hp.lo 11 (by decide)
    simp [World.drew] at l4 l11
    obtain ⟨kA, bel, -⟩ := HC.out W hp.bel
    have hlast : lastP ((⟨id, kd, io, pt, bk, sl, nm, bt, ot, af, bl⟩ : Dp)).id E = lastP id E := rfl
    obtain ⟨D, m1, m2⟩ := H.out.put (g := (iw 11).1) (p := .slice b1 bl.length d1) (d := (⟨id, kd, io, pt, bk, sl, nm, bt, ot, af, bl⟩ : Dp)) (pl := pl) Tryz.u3 bel A11 (by omega) (O4.base_le (Nat.zero_le _)) (fun k hk => by
      have q1 := (O4.lt k hk).1
      have q2 := lt4 k hk
      omega) HW.out HL.out
    generalize (iw 11).1 = g at *
    simp only [e0, e2, e11]
    clear hp O4 lt4 e4 e10 kA z11 p411 l4 l11 e0 e2 e11
    refine wpList_mapUpdate_own (H := Nat) _ rfl _ _ _ 78 rfl 3 98 (int_keyed Tryz.u3) Tryz.u78 ptrE B E.length D rfl m1 (by have := HE.out; show E.length < maxLen; exact Nat.lt_trans this (by decide)) _ _ (.int .i64 id) rfl rfl (keyOf_int_mk Tryz.u3 HW.out) (.held g) [] rfl ?_
    intro w2 o2 g2
    have LE2 := m2 w2 o2 g2
    have HL2 := hide (And.intro LE2 (grownBy_trans (grownBy_below bel _) g2))
    clear m1 m2 o2 g2 LE2 bel
    go_wp2
    go_end0
    exact ⟨rfl, g, _, HL2.out.1, HL2.out.2⟩
end Go.Proofs.YtggjillpfclajaaGreat
/- The leaners in their order: leaners.inOrder by its contract. -/
namespace Go.Proofs.YtggjillpfclajaaGreat.Kit
open Go.RowKit Go.Maps
def lenOf : Value → Nat
  | .slice _ n _ => n
  | _ => 0
/-- Pointers found so far, in memory of their own. -/
structure Fo (w : World) (E : List Ln) (wr : World) (v : Value) (F : List (Fin E.length)) : Prop where
  own : NOwns wr 98 1 v (F.map fun j => [Value.pointer (some ⟨E[j].b, 0, none⟩)])
  lo : ∀ k, v.ownBlock = some k → w.heap.size < k
  bel : Below w.heap.size w wr
  sz : w.heap.size < wr.heap.size
  nd : F.Nodup
namespace Fo
variable {w wr w' : World} {E : List Ln} {v v' : Value} {F : List (Fin E.length)}
theorem len (h : Fo w E wr v F) : F.length ≤ E.length := by
  have := List.Nodup.length_le_of_subset h.nd (l₂ := List.finRange E.length) (fun a _ => List.mem_finRange a)
  simpa using this
theorem lenV (h : Fo w E wr v F) : lenOf v = F.length := by
  obtain ⟨a, c, rfl, -⟩ := h.own.form
  simp [lenOf]
theorem turn (h : Fo w E wr v F) (hg : wr.grownBy w' (some w.heap.size)) : Fo w E w' v F :=
  ⟨h.own.of_heap fun k hk => hg.block k (h.own.lt k hk) (fun e => by have := h.lo k hk; cases e; omega), h.lo, h.bel.grown hg (Nat.le_of_lt h.sz) (fun k hk => by cases hk; exact Nat.le_refl _), Nat.lt_of_lt_of_le h.sz hg.size, h.nd⟩
theorem app (h : Fo w E wr v F) (i : Fin E.length) (hi : i ∉ F) {o : Obj} (h1 : NOwns w' 98 1 v' ((F.map fun j => [Value.pointer (some ⟨E[j].b, 0, none⟩)]) ++ [[Value.pointer (some ⟨E[i].b, 0, none⟩)]])) (h2 : (wr.alloc o).grownBy w' v.ownBlock) (h3 : ∀ k, v'.ownBlock = some k → v.ownBlock = some k ∨ (wr.alloc o).heap.size ≤ k) : Fo w E w' v' (F ++ [i]) := by
  have hz := h.sz
  have hs : (wr.alloc o).heap.size = wr.heap.size + 1 := by simp
  refine ⟨by rw [List.map_append]; exact h1, fun k hk => ?_, ?_, ?_, ?_⟩
  · rcases h3 k hk with e | e
    · exact h.lo k e
    · omega
  · exact (h.bel.alloc (Nat.le_of_lt hz) o).grown h2 (by omega) (fun k hk => Nat.le_of_lt (h.lo k hk))
  · have := h2.size
    omega
  · rw [List.nodup_append]
    exact ⟨h.nd, by simp, fun a ha b hb => by simp at hb; subst hb; exact fun e => hi (e ▸ ha)⟩
end Fo
theorem sameKey_int (x y : Int) : (Lit.int .i64 x).sameKey (.int .i64 y) = decide (x = y) := by
  simp [Lit.sameKey]
theorem lastP_some (E : List Ln) (j : Nat) (hj : j < E.length) : lastP E[j].d.id E ≠ none := by
  intro e
  rcases lastP_spec E[j].d.id E E.length (Nat.le_refl _) with ⟨-, h⟩ | ⟨i, hi, -, h, -⟩
  · exact h j hj hj rfl
  · rw [List.take_length, e] at h
    cases h
/-- What leans, in rows. -/
def rowsL (E : List Ln) (ps : List Value) : List Row := List.zipWith (fun e p => e.d.row p) E ps
theorem rowsL_length {E : List Ln} {ps : List Value} (h : ps.length = E.length) : (rowsL E ps).length = E.length := by simp [rowsL, h]
theorem rowsL_at {E : List Ln} {ps : List Value} (j : Nat) (h : j < (rowsL E ps).length) (h1 : j < E.length) (h2 : j < ps.length) : (rowsL E ps)[j] = E[j].d.row ps[j] := by simp [rowsL]
/-- The list of all is made of what the leaners hold. -/
theorem LEN.list {P : Program} {w w2 : World} {L B N : Nat} {E : List Ln} {ps : List Value} (h : LEN P w L B E ps N) {lv : Value} (hn : NOwns w2 52 11 lv (rowsL E ps)) (hlo : ∀ k, lv.ownBlock = some k → w.heap.size ≤ k) (hb : Below w.heap.size w w2) :
    GN KDep w2 (fun k => (∃ (i : Nat) (hi : i < ps.length), ps[i].ownBlock = some k) ∨ w.heap.size ≤ k) lv (rowsL E ps) (E.map (·.d)) := by
  have hl := h.len
  have hlr := rowsL_length hl
  have hps : ∀ (j : Nat) (hj : j < (rowsL E ps).length), ∃ (h2 : j < ps.length), KDep.p (rowsL E ps)[j] = ps[j] := fun j hj => ⟨by omega, by rw [rowsL_at j hj (by omega) (by omega)]; rfl⟩
  have hlt : ∀ (j : Nat) (hj : j < ps.length) (k : Nat), ps[j].ownBlock = some k → k < w.heap.size := fun j hj k hk => ((h.own j (by omega) hj).lt k hk).2
  refine ⟨by simp [hlr], hn, fun j hj hj' => ?_, fun i j hi hj hne k e1 e2 => ?_, fun j hj k e1 e2 => ?_, fun k e => .inr (hlo k e), fun j hj k e => ?_⟩
  · refine ⟨ps[j]'(by omega), ?_, ?_⟩
    · rw [rowsL_at j hj (by omega) (by omega), List.getElem_map]
    · rw [List.getElem_map]
      exact (h.own j (by omega) (by omega)).below hb (Nat.le_refl _)
  · obtain ⟨q1, r1⟩ := hps i hi
    obtain ⟨q2, r2⟩ := hps j hj
    rw [r1] at e1
    rw [r2] at e2
    exact h.np i j q1 q2 hne k e1 e2
  · obtain ⟨q1, r1⟩ := hps j hj
    rw [r1] at e1
    have := hlt j q1 k e1
    have := hlo k e2
    omega
  · obtain ⟨q1, r1⟩ := hps j hj
    rw [r1] at e
    exact .inl ⟨j, q1, e⟩
end Go.Proofs.YtggjillpfclajaaGreat.Kit
namespace Go.Proofs.YtggjillpfclajaaGreat
open Go.RowKit Kit Go.Maps
theorem Tryz.u124 : Tryz.prog.underlying 124 = some (.slice 98) := by kernel_rfl
theorem Tryz.i98 : (Tryz.prog.info? 98).map (fun i => (i.zero, i.size, i.bytes)) = some (some (.pointer none), 1, 8) := by kernel_rfl
end Go.Proofs.YtggjillpfclajaaGreat
/- The leaners in their order: leaners.inOrder by its contract. -/
namespace Go.Proofs.YtggjillpfclajaaGreat
open Go.RowKit Kit Go.Maps
set_option maxRecDepth 100000 in
set_option maxHeartbeats 1600000 in
theorem inOrder_any {N : Nat} (L B : Nat) (E : List Ln) (ps : List Value) (w : World) (h : LEN Tryz.prog w L B E ps N) (hpl : ∀ i j : Fin E.length, i < j → E[i].pl < E[j].pl) (hE : E.length ≤ 1048576) :
    Calls Tryz.prog 75 #[.map (some B)] w fun e w' => ∃ lv ts, e = .returned lv ∧ GN KDep w' (fun k => (∃ (i : Nat) (hi : i < ps.length), ps[i].ownBlock = some k) ∨ w.heap.size ≤ k) lv ts (E.map (·.d)) ∧ Below w.heap.size w w' := by
  have H := hide h
  have HPL := hide hpl
  have HE := hide hE
  obtain ⟨D, hown, hat, hhas⟩ := h.map
  have HAT := hide hat
  have HAS := hide hhas
  clear h hpl hE hat hhas
  go_enter Tryz.func75, Tryz.ntmps75
  go_wp2_with (first | (at_range; refine wpList_range_own (H := Nat) _ rfl _ 78 rfl 3 98 (int_keyed Tryz.u3) Tryz.u78 ptrE B N D rfl hown ?_; intro w0 hrg0 hg0 hs0) | go_in)
  go_frame
  go_loopw [3] (fun fv wr => Hid (∃ left cnt F, wr.ranges Tryz.prog 3 ptrE B w.heap.size N D left cnt ∧ Fo w E wr fv F ∧ ∀ j : Fin E.length, j ∈ F ↔ left (.int .i64 E[j].d.id) = false)) (fun fv wr => wr.rangeLeft B w.heap.size)
  case atStart =>
    refine ⟨_, _, [], hrg0, ⟨NOwns.nil _ _ _, (fun k hk => by cases hk), ?_, by omega, List.nodup_nil⟩, fun j => ?_⟩
    · exact (Below.refl _ w).grown hg0 (Nat.le_refl _) (fun k hk => by cases hk)
    · have e1 := HAS.out E[j].d.id (H.out.wf j j.2)
      have e2 := lastP_some E j j.2
      rw [e1]
      constructor
      · intro e; cases e
      · intro e
        cases e3 : lastP E[j].d.id E with
        | none => exact absurd e3 e2
        | some b => rw [e3] at e; cases e
  case round =>
    obtain ⟨left, cnt, F, hrg, hF, hmem⟩ := hrel.out
    have HF := hide (And.intro hrg (And.intro hF hmem))
    clear hF hmem hrel hrg0 hg0 hs0
    go_wp2_with (at_next; refine wpList_next_ranges (H := Nat) _ rfl _ rfl 3 (int_keyed Tryz.u3) ptrE (Value.int .i64) ptrV (fun key kl hkey => by obtain ⟨x, rfl, _⟩ := Maps.keyOf_int_inv Tryz.u3 hkey; exact ⟨x, rfl⟩) (fun v y hv => by obtain ⟨o, rfl, _⟩ := ptrE_inv hv; exact ⟨o, rfl⟩) B w.heap.size N D left cnt rfl hrg ?_ ?_)
    · intro hc0 hl0
      have hall : ∀ j : Fin E.length, j ∈ F := fun j => (HF.out.2.2 j).2 (hl0 _)
      have hFo := HF.out.2.1
      have hsz := hFo.bel.size
      have HALL := hide hall
      have HFO := hide hFo
      have HCALL : Hid (Calls Tryz.prog 90 #[u3, .func (.func 91) #[] #[]] wr fun e w' => e = .returned (.tuple #[]) ∧ ∃ a c, u3 = .slice a E.length c ∧ (∀ (k : Nat) (h : k < E.length), ∃ g, a = some ⟨g, 0, none⟩ ∧ g < w'.heap.size ∧ w'.cell? ⟨g, k, none⟩ = some (.pointer (some ⟨E[k].b, 0, none⟩))) ∧ Below w.heap.size w w') := by
        have hFl : F.length = E.length := by
          have := ((List.perm_ext_iff_of_nodup hFo.nd (List.nodup_finRange E.length)).2 fun a => ⟨fun _ => List.mem_finRange a, fun _ => hall a⟩).length_eq
          simpa using this
        obtain ⟨a, c, e3, hc, ha0⟩ := hFo.own.form
        rw [List.length_map] at e3 hc
        by_cases e0 : E.length = 0
        · have e00 : u3 = .slice a 0 c := by rw [e3, hFl, e0]
          rw [e00]
          have hcon := AnyF.slices_SortFunc_none { Tryz.sortL with } a c (.func (.func 91) #[] #[]) wr
          change Calls Tryz.prog 90 _ _ _ at hcon
          refine hcon.mono ?_
          rintro e w' ⟨rfl, rfl⟩
          exact ⟨rfl, a, c, by rw [e0], fun k hk => by omega, hFo.bel⟩
        · obtain ⟨g, cap, e4, -, hfr, hg, -⟩ := hFo.own.at 0 (by rw [List.length_map]; omega)
          rw [List.length_map] at e4
          have hlo : w.heap.size < g := hFo.lo g (by rw [e4]; rfl)
          have hLE := H.out.below hFo.bel
          have hb0 : ∀ j : Fin E.length, E[j].b < w.heap.size := fun j => (H.out.cell j j.2 (by have := H.out.len; omega)).lt
          rw [e4]
          refine Calls.mono (sortL_any E F g cap wr (fun j => ?_) (fun j => ?_) (fun j => ?_) HPL.out hFo.nd hall (by omega) HE.out hg (fun k hk => ?_)) ?_
          · exact (hLE.cell j j.2 (by have := H.out.len; omega)).cell 11
          · have := hb0 j; omega
          · have := hb0 j; omega
          · obtain ⟨g2, cap2, e5, hcell, hfr2, -, -⟩ := hFo.own.at k (by rw [List.length_map]; exact hk)
            rw [e4] at e5
            simp only [Value.slice.injEq, Option.some.injEq, Addr.mk.injEq] at e5
            obtain ⟨⟨rfl, -⟩, -⟩ := e5
            refine ⟨?_, hfr2 k⟩
            have := hcell 0 (by decide)
            rw [Nat.mul_one, Nat.add_zero] at this
            rw [this]
            simp
          · rintro e w' ⟨rfl, b1, -, b3⟩
            exact ⟨rfl, _, _, by rw [hFl], fun k hk => ⟨g, rfl, Nat.lt_of_lt_of_le hg b1.size, b3 k hk⟩, hFo.bel.trans (b1.mono (by omega))⟩
      clear hall hFo hsz hl0
      go_wp2_with (go_at_call 90; refine HCALL.out.mono ?_; rintro e w9 ⟨rfl, a9, c9, rfl, C9, B9⟩; have HC9 := hide C9; have HB9 := hide B9; clear C9 B9)
      clear HCALL HF hrg hc0
      go_loopw [29, 6] (fun i lv wr => ∃ j : Nat, j ≤ E.length ∧ i = .int .i64 j ∧ Hid (NOwns wr 52 11 lv ((rowsL E ps).take j) ∧ (∀ k, lv.ownBlock = some k → w9.heap.size ≤ k) ∧ Below w9.heap.size w9 wr)) (fun i lv _ => E.length - (intOf i).toNat)
      case atStart => exact ⟨0, Nat.zero_le _, rfl, NOwns.nil _ _ _, (fun k hk => by cases hk), Below.refl _ _⟩
      case round =>
        obtain ⟨j, hj, rfl, HR⟩ := hrel
        by_cases hlt : j < E.length
        · obtain ⟨hn, hlo, hbl⟩ := HR.out
          obtain ⟨g, rfl, hg, hcj⟩ := HC9.out j hlt
          have hlm := H.out.len
          have hbw : Below w.heap.size w wr := HB9.out.trans (hbl.mono HB9.out.size)
          have cj : wr.cell? ⟨g, j, none⟩ = some (.pointer (some ⟨E[j].b, 0, none⟩)) := (hbl.cell (p := ⟨g, j, none⟩) hg).trans hcj
          have kc := (H.out.below hbw).cell j hlt (by omega)
          have own := (H.out.below hbw).own j hlt (by omega)
          have hrl := rowsL_length hlm
          have htk : (rowsL E ps).take j ++ [E[j].d.row (ps[j]'(by omega))] = (rowsL E ps).take (j + 1) := by
            rw [← rowsL_at j (by omega) hlt (by omega)]
            exact List.take_append_getElem (by omega)
          obtain ⟨X, hX⟩ : ∃ X, E[j].d = X := ⟨_, rfl⟩
          obtain ⟨p, hp⟩ : ∃ p, ps[j]'(by omega) = p := ⟨_, rfl⟩
          rw [hX, hp] at kc own htk
          obtain ⟨id, kd, io, pt, bk, sl, nm, bt, ot, af, bl⟩ := X
          obtain ⟨pa, pc, rfl⟩ := own.rints.form
          simp only [lnRow_mk] at kc
          obtain ⟨eb, heb⟩ : ∃ eb, E[j].b = eb := ⟨_, rfl⟩
          rw [heb] at kc cj
          obtain ⟨a1, c1, e1, hc1, -⟩ := hn.form
          have htl : ((rowsL E ps).take j).length = j := by rw [List.length_take]; omega
          have d0 : wr.cell? ⟨eb, 0, none⟩ = some (.int .i64 id) := kc.cell 0
          have d1 : wr.cell? ⟨eb, 1, none⟩ = some (.int .i64 kd) := kc.cell 1
          have d2 : wr.cell? ⟨eb, 2, none⟩ = some (.int .i64 io) := kc.cell 2
          have d3 : wr.cell? ⟨eb, 3, none⟩ = some (.int .i64 pt) := kc.cell 3
          have d4 : wr.cell? ⟨eb, 4, none⟩ = some (.int .i64 bk) := kc.cell 4
          have d5 : wr.cell? ⟨eb, 5, none⟩ = some (.int .i64 sl) := kc.cell 5
          have d6 : wr.cell? ⟨eb, 6, none⟩ = some (.string nm) := kc.cell 6
          have d7 : wr.cell? ⟨eb, 7, none⟩ = some (.bool bt) := kc.cell 7
          have d8 : wr.cell? ⟨eb, 8, none⟩ = some (.bool ot) := kc.cell 8
          have d9 : wr.cell? ⟨eb, 9, none⟩ = some (.int .i64 af) := kc.cell 9
          have d10 : wr.cell? ⟨eb, 10, none⟩ = some (.slice pa bl.length pc) := kc.cell 10
          have HT : Hid (NOwns (wr.alloc (.cells #[.int .i64 id, .int .i64 kd, .int .i64 io, .int .i64 pt, .int .i64 bk, .int .i64 sl, .string nm, .bool bt, .bool ot, .int .i64 af, .slice pa bl.length pc] 52)) 52 11 u6 ((rowsL E ps).take j)) := hn.of_heap fun k hk => ((Below.refl _ wr).alloc (Nat.le_refl _) _).block k (hn.lt k hk)
          have HTL : Hid (((rowsL E ps).take j).length ≤ 100000000000) := by
            have q2 := HE.out
            show _ ≤ _
            omega
          have HSTEP : Hid (∀ v' w', NOwns w' 52 11 v' ((rowsL E ps).take j ++ [(⟨id, kd, io, pt, bk, sl, nm, bt, ot, af, bl⟩ : Dp).row (.slice pa bl.length pc)]) → (wr.alloc (.cells #[.int .i64 id, .int .i64 kd, .int .i64 io, .int .i64 pt, .int .i64 bk, .int .i64 sl, .string nm, .bool bt, .bool ot, .int .i64 af, .slice pa bl.length pc] 52)).grownBy w' u6.ownBlock → (∀ k, v'.ownBlock = some k → u6.ownBlock = some k ∨ (wr.alloc (.cells #[.int .i64 id, .int .i64 kd, .int .i64 io, .int .i64 pt, .int .i64 bk, .int .i64 sl, .string nm, .bool bt, .bool ot, .int .i64 af, .slice pa bl.length pc] 52)).heap.size ≤ k) → NOwns w' 52 11 v' ((rowsL E ps).take (j + 1)) ∧ (∀ k, v'.ownBlock = some k → w9.heap.size ≤ k) ∧ Below w9.heap.size w9 w') := fun v' w' q1 q2 q3 => by
            have hsz := hbl.size
            refine ⟨by rw [htk] at q1; exact q1, fun k hk => ?_, ?_⟩
            · rcases q3 k hk with e | e
              · exact hlo k e
              · simp at e; omega
            · exact (hbl.alloc hsz _).grown q2 (by simp; omega) (fun k hk => hlo k hk)
          have hE1 : E.length ≤ 1048576 := HE.out
          have j0 : (0 : Int) ≤ (j : Int) := by omega
          have j1 : (j : Int) < (E.length : Int) := by omega
          clear HR hn hlo hbl hcj hbw kc own htk hX hp heb e1 hc1 hg
          go_wp2_with (at_builtin; refine wpList_step fun K' hK' => ?_; refine step_append_n _ rfl (.tmp 33) (.tmp 38) 38 rfl 52 Tryz.u38 _ 11 104 Tryz.i52 rfl (by decide) (by decide) u6 _ rfl HT.out wr.heap.size ((⟨id, kd, io, pt, bk, sl, nm, bt, ot, af, bl⟩ : Dp).row (.slice pa bl.length pc)) rfl rfl (fun i u hu => (AtC.new wr 52 #[.int .i64 id, .int .i64 kd, .int .i64 io, .int .i64 pt, .int .i64 bk, .int .i64 sl, .string nm, .bool bt, .bool ot, .int .i64 af, .slice pa bl.length pc]).at_ i u hu) (by simp [Dp.row, Value.oneCell']) HTL.out ?_; intro v12 w12 T12 G12 V12; refine hK' _ _ ?_; have HR12 := hide (HSTEP.out v12 w12 T12 G12 V12); clear T12 G12 V12 hK')
          go_roundw
          case rel => exact ⟨j + 1, by omega, by go_num, HR12.out⟩
          case measure => simp [intOf]; omega
        · have hj2 : j = E.length := by omega
          subst hj2
          go_wp2
          go_ret
          obtain ⟨hn, hlo, hbl⟩ := HR.out
          have hbw : Below w.heap.size w wr := HB9.out.trans (hbl.mono HB9.out.size)
          have hrl := rowsL_length H.out.len
          rw [← hrl, List.take_length] at hn
          exact ⟨_, _, rfl, H.out.list hn (fun k hk => Nat.le_trans HB9.out.size (hlo k hk)) hbw, hbw⟩
    · intro x c kl ya yb w1 cnt1 hkey hlk hv hzat hrg1 hlt hg1 hs1 hen
      obtain ⟨x', ex, rfl, hwx⟩ := Maps.keyOf_int_inv Tryz.u3 hkey
      cases ex
      have hc : lastP x E = c := by
        have e1 := HAT.out x hwx
        rw [hzat] at e1
        rw [ptrE_mk] at hv
        simp only [Option.some.injEq, Prod.mk.injEq] at hv
        rw [← hv.1] at e1
        exact (datP_inj e1).symm
      subst hc
      have HI := hide (And.intro hrg1 (And.intro (HF.out.2.1.turn hg1) HF.out.2.2))
      have HLK := hide hlk
      have HLT := hide (And.intro hlt hrg)
      clear hkey hv hzat hrg hrg1 hlk hlt hg1 hs1 HF
      go_wp2_with fail
      go_loopw [5, 3] (fun one fv wr => Hid (∃ t F, t ≤ E.length ∧ one = ptrV (lastP x (E.take t)) ∧ wr.ranges Tryz.prog 3 ptrE B w.heap.size N D (fun z => left z && !z.sameKey (.int .i64 x)) cnt1 ∧ Fo w E wr fv F ∧ ∀ j : Fin E.length, j ∈ F ↔ (left (.int .i64 E[j].d.id) = false ∨ (E[j].d.id = x ∧ t ≤ j.1)))) (fun one fv wr => E.length - lenOf fv)
      case atStart => exact ⟨E.length, F, Nat.le_refl _, by rw [List.take_length], HI.out.1, HI.out.2.1, fun j => (HI.out.2.2 j).trans ⟨.inl, fun e => e.elim id fun e => absurd e.2 (by have := j.2; omega)⟩⟩
      case round =>
        obtain ⟨t, F2, ht, e5, hrg2, hF2, hm2⟩ := hrel.out
        clear hrel
        rcases lastP_spec x E t ht with ⟨h1, h2⟩ | ⟨i, hi, hit, h1, h3, h4⟩
        · rw [h1] at e5
          simp only [ptrV] at e5
          subst e5
          go_wp2
          go_roundw
          case rel =>
            refine ⟨_, cnt1, F2, hrg2, hF2, fun j => (hm2 j).trans ⟨fun e => ?_, fun e => ?_⟩⟩
            · rcases e with e | e
              · show (left (.int .i64 E[j].d.id) && !(Lit.int .i64 E[j].d.id).sameKey (.int .i64 x)) = false
                rw [e]; rfl
              · show (left (.int .i64 E[j].d.id) && !(Lit.int .i64 E[j].d.id).sameKey (.int .i64 x)) = false
                rw [sameKey_int, e.1]; simp
            · by_cases e2 : E[j].d.id = x
              · exact .inr ⟨e2, by
                  by_cases q : t ≤ j.1
                  · exact q
                  · exact absurd e2 (h2 j j.2 (by omega))⟩
              · refine .inl ?_
                have e' : (left (.int .i64 E[j].d.id) && !(Lit.int .i64 E[j].d.id).sameKey (.int .i64 x)) = false := e
                rw [sameKey_int, decide_eq_false e2, Bool.not_false, Bool.and_true] at e'
                exact e'
          case measure => rw [hrg2.left_eq, HLT.out.2.left_eq]; exact HLT.out.1
        · rw [h1] at e5
          simp only [ptrV] at e5
          subst e5
          have hlm := H.out.len
          have hni : (⟨i, hi⟩ : Fin E.length) ∉ F2 := fun q => by
            rcases (hm2 ⟨i, hi⟩).1 q with e | e
            · have e' : left (.int .i64 E[i].d.id) = false := e
              rw [h3, HLK.out] at e'
              cases e'
            · have := e.2
              simp only at this
              omega
          have HT : Hid (NOwns (wr.alloc (.cells #[.pointer (some ⟨E[i].b, 0, none⟩)] 98)) 98 1 u3 (F2.map fun j => [Value.pointer (some ⟨E[j].b, 0, none⟩)])) := hF2.own.of_heap fun k hk => ((Below.refl _ wr).alloc (Nat.le_refl _) _).block k (hF2.own.lt k hk)
          have HTL : Hid ((F2.map fun j => [Value.pointer (some ⟨E[j].b, 0, none⟩)]).length ≤ 100000000000) := by
            have q1 := hF2.len
            have q2 := HE.out
            show _ ≤ _
            rw [List.length_map]
            omega
          have HSTEP : Hid (∀ v' w', NOwns w' 98 1 v' ((F2.map fun j => [Value.pointer (some ⟨E[j].b, 0, none⟩)]) ++ [[Value.pointer (some ⟨E[i].b, 0, none⟩)]]) → (wr.alloc (.cells #[.pointer (some ⟨E[i].b, 0, none⟩)] 98)).grownBy w' u3.ownBlock → (∀ k, v'.ownBlock = some k → u3.ownBlock = some k ∨ (wr.alloc (.cells #[.pointer (some ⟨E[i].b, 0, none⟩)] 98)).heap.size ≤ k) → w'.cell? ⟨E[i].b, 12, none⟩ = some (ptrV (lastP x (E.take i))) ∧ lenOf v' = F2.length + 1 ∧ ∃ t F, t ≤ E.length ∧ ptrV (lastP x (E.take i)) = ptrV (lastP x (E.take t)) ∧ w'.ranges Tryz.prog 3 ptrE B w.heap.size N D (fun z => left z && !z.sameKey (.int .i64 x)) cnt1 ∧ Fo w E w' v' F ∧ ∀ j : Fin E.length, j ∈ F ↔ (left (.int .i64 E[j].d.id) = false ∨ (E[j].d.id = x ∧ t ≤ j.1))) := fun v' w' q1 q2 q3 => by
            have hF3 := hF2.app ⟨i, hi⟩ hni q1 q2 q3
            have hsz := hF2.sz
            refine ⟨?_, ?_, i, _, Nat.le_of_lt hi, rfl, ?_, hF3, fun j => ?_⟩
            · have k := ((H.out.below hF3.bel).cell i hi (by omega)).cell 12
              rw [h3] at k
              exact k
            · rw [hF3.lenV, List.length_append]; rfl
            · refine (hrg2.alloc _).kept q2 (fun e => ?_) (fun e => ?_)
              · have := hF2.lo B e.symm
                have := H.out.lt
                omega
              · have := hF2.lo w.heap.size e.symm
                omega
            · rw [List.mem_append, hm2 j]
              constructor
              · rintro ((q | q) | q)
                · exact .inl q
                · exact .inr ⟨q.1, by omega⟩
                · have q' : j = ⟨i, hi⟩ := by simpa using q
                  subst q'
                  exact .inr ⟨h3, Nat.le_refl _⟩
              · rintro (q | q)
                · exact .inl (.inl q)
                · by_cases e : t ≤ j.1
                  · exact .inl (.inr ⟨q.1, e⟩)
                  · by_cases e2 : i = j.1
                    · right
                      rw [List.mem_singleton]
                      exact Fin.ext e2.symm
                    · exact absurd q.1 (h4 j j.2 (by omega) (by omega))
          have hlv := hF2.lenV
          have hlen2 : F2.length + 1 ≤ E.length := by
            have := List.Nodup.length_le_of_subset (l₁ := F2 ++ [⟨i, hi⟩]) (l₂ := List.finRange E.length) (by
              rw [List.nodup_append]
              exact ⟨hF2.nd, by simp, fun a ha b hb => by simp at hb; subst hb; exact fun e => hni (e ▸ ha)⟩) (fun a _ => List.mem_finRange a)
            simpa using this
          have HLV := hide (And.intro hlv hlen2)
          clear hrg2 hF2 hm2 h4 h1 hni hlv hlen2
          generalize E[i].b = eb at *
          go_wp2_with (at_builtin; refine wpList_step fun K' hK' => ?_; refine step_append_n _ rfl (.tmp 21) (.tmp 23) 124 rfl 98 Tryz.u124 _ 1 8 Tryz.i98 rfl (by decide) (by decide) u3 _ rfl HT.out wr.heap.size [.pointer (some ⟨eb, 0, none⟩)] rfl rfl (fun j u hu => (AtC.new wr 98 #[.pointer (some ⟨eb, 0, none⟩)]).at_ j u hu) (by simp [Value.oneCell']) HTL.out ?_; intro v12 w12 T12 G12 V12; refine hK' _ _ ?_; obtain ⟨c12, l12, R12⟩ := HSTEP.out v12 w12 T12 G12 V12; have HR12 := hide R12; clear R12 T12 G12 V12 hK')
          go_roundw
          case rel => exact HR12.out
          case measure =>
            have q := HLV.out
            simp only [l12, q.1]
            omega
end Go.Proofs.YtggjillpfclajaaGreat
