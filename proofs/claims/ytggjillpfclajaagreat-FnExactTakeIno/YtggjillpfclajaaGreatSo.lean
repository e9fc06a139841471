/- Pointers to leaners are sorted by place: slices.SortFunc at them. -/
import Derived.Test.YtggjillpfclajaaGreatCm
import Derived.Test.YtggjillpfclajaaGreatSrt
namespace Go.Proofs.YtggjillpfclajaaGreat
open Go.Shelf Go.RowKit Go.Lib Go.Sort Kit
theorem sortWorld_old {α : Type} [Inhabited α] (enc : α → Value) (w : World) (blk off m : Nat) (dk : Array α) (os : Array Obj) (k : Nat) (h1 : k ≠ blk) (h2 : k < w.heap.size) : (sortWorld enc w blk off m dk os).heap[k]? = w.heap[k]? := by
  unfold sortWorld
  have hs : (putRow enc (Sort.ahead w m) blk off dk).heap.size = w.heap.size := by simp [putRow, mapBlock, Sort.ahead]
  rw [heap_grow_old _ _ (by rw [hs]; exact h2)]
  simp only [putRow, mapBlock, Sort.ahead, Array.getElem?_modify]
  rw [if_neg (fun e => h1 e.symm)]
theorem cell_old {α : Type} [Inhabited α] (enc : α → Value) (w : World) (blk off m : Nat) (dk : Array α) (os : Array Obj) (a : Addr) (h1 : a.block ≠ blk) (h2 : a.block < w.heap.size) : (sortWorld enc w blk off m dk os).cell? a = w.cell? a := by
  simp only [World.cell?, sortWorld_old enc w blk off m dk os a.block h1 h2]
theorem sortWorld_below {α : Type} [Inhabited α] (enc : α → Value) (w : World) (blk off m : Nat) (dk : Array α) (os : Array Obj) (B : Nat) (hB : B ≤ blk) (hb : blk < w.heap.size) : Below B w (sortWorld enc w blk off m dk os) := by
  refine ⟨rfl, rfl, rfl, ?_, fun k hk => sortWorld_old enc w blk off m dk os k (by omega) (by omega)⟩
  have hs : (putRow enc (Sort.ahead w m) blk off dk).heap.size = w.heap.size := by simp [putRow, mapBlock, Sort.ahead]
  unfold sortWorld
  rw [size_grow, hs]
  omega
theorem cmpI_neg (x y : Int) : (cmpI x y < 0) ↔ x < y := by
  unfold cmpI
  split
  · simp; assumption
  · split
    · simp; omega
    · simp; omega
/-- All of them, sorted by place, stand in their order. -/
theorem sorted_fin (n : Nat) (F : List (Fin n)) (hF : F.Nodup) (hall : ∀ j, j ∈ F) (le : Fin n → Fin n → Bool) (hle : ∀ i j, le i j = decide (i ≤ j)) : F.mergeSort le = List.finRange n := by
  have hp : (F.mergeSort le).Perm (List.finRange n) := (List.mergeSort_perm F le).trans ((List.perm_ext_iff_of_nodup hF (List.nodup_finRange n)).2 fun a => ⟨fun _ => List.mem_finRange a, fun _ => hall a⟩)
  refine List.Perm.eq_of_pairwise (le := fun i j => le i j = true) (fun a b _ _ h1 h2 => ?_) (List.pairwise_mergeSort (fun a b c h1 h2 => ?_) (fun a b => ?_) F) ?_ hp
  · rw [hle] at h1 h2
    have h1 := of_decide_eq_true h1
    have h2 := of_decide_eq_true h2
    exact Fin.le_antisymm h1 h2
  · rw [hle] at h1 h2 ⊢
    have h1 := of_decide_eq_true h1
    have h2 := of_decide_eq_true h2
    exact decide_eq_true (Fin.le_trans h1 h2)
  · rw [hle, hle]
    rcases Fin.le_total a b with h | h <;> simp [h]
  · exact (List.pairwise_le_finRange n).imp fun h => by rw [hle]; exact decide_eq_true h
theorem sortL_any (E : List Ln) (F : List (Fin E.length)) (blk cap : Nat) (w : World) (hc : ∀ j : Fin E.length, w.cell? ⟨E[j].b, 11, none⟩ = some (.int .i64 (E[j].pl : Int))) (hlt : ∀ j : Fin E.length, E[j].b < w.heap.size) (hne : ∀ j : Fin E.length, E[j].b ≠ blk) (hpl : ∀ i j : Fin E.length, i < j → E[i].pl < E[j].pl)
    (hF : F.Nodup) (hall : ∀ j, j ∈ F) (h0 : 0 < E.length) (hl : E.length ≤ 1048576) (hblk : blk < w.heap.size)
    (hH : ∀ (k : Nat) (h : k < F.length), w.cell? ⟨blk, k, none⟩ = some (.pointer (some ⟨E[F[k]].b, 0, none⟩)) ∧ w.frozen? ⟨blk, k, none⟩ = false) :
    Calls Tryz.prog 90 #[.slice (some ⟨blk, 0, none⟩) F.length cap, .func (.func 91) #[] #[]] w fun e w' => e = .returned (.tuple #[]) ∧ Below blk w w' ∧ (∀ k, k ≠ blk → k < w.heap.size → w'.heap[k]? = w.heap[k]?) ∧ ∀ (k : Nat) (h : k < E.length), w'.cell? ⟨blk, k, none⟩ = some (.pointer (some ⟨E[k].b, 0, none⟩)) := by
  haveI : Inhabited (Fin E.length) := ⟨⟨0, h0⟩⟩
  have hFl : F.length = E.length := by
    have := ((List.perm_ext_iff_of_nodup hF (List.nodup_finRange E.length)).2 fun a => ⟨fun _ => List.mem_finRange a, fun _ => hall a⟩).length_eq
    simpa using this
  have hlt' : ∀ i j : Fin E.length, ltOf (fun i j : Fin E.length => cmpI (E[i].pl : Int) (E[j].pl : Int)) i j = decide (i < j) := fun i j => by
    unfold ltOf
    by_cases h : i < j
    · have := hpl i j h
      rw [decide_eq_true ((cmpI_neg _ _).2 (by omega)), decide_eq_true h]
    · rw [decide_eq_false h, decide_eq_false]
      rw [cmpI_neg]
      by_cases e : i = j
      · subst e; omega
      · have := hpl j i (by omega)
        omega
  have eg : ∀ args w, (callFunc 91 args).run Tryz.prog w = .ok (.enter 91 args) w := enters_of Tryz.func91 (by kernel_rfl) rfl
  have hcon := Any.slices_SortFunc_total Tryz.sortL (fun j : Fin E.length => Value.pointer (some ⟨E[j].b, 0, none⟩)) (fun _ => rfl) (fun i j : Fin E.length => cmpI (E[i].pl : Int) (E[j].pl : Int))
    ⟨fun x => by rw [hlt']; simp, fun x y z h1 h2 => by rw [hlt'] at *; simp at *; omega, fun x y z h1 h2 => by rw [hlt'] at *; simp at *; omega⟩ 91 #[] blk 0 cap F.toArray w eg
    (CmpReads.lays fun m os dk _ x y => byPlace_any _ _ _ _ _ (by rw [cell_old _ _ _ _ _ _ _ _ (hne x) (hlt x)]; exact hc x) (by rw [cell_old _ _ _ _ _ _ _ _ (hne y) (hlt y)]; exact hc y))
    (fun k hk => by
      have hk' : k < F.length := by simpa using hk
      have := hH k hk'
      rw [Nat.zero_add]
      refine ⟨this.1.trans ?_, this.2⟩
      rw [getElem!_pos F.toArray k hk]
      rfl) hblk (by simp; omega) (fun x y h1 h2 => by rw [hlt'] at *; simp at *; omega)
  change Calls Tryz.prog 90 _ _ _ at hcon
  rw [List.size_toArray] at hcon
  refine hcon.mono ?_
  rintro e w' ⟨rfl, n, os, rfl⟩
  rw [show F.toArray.toList.mergeSort (fun x y => !(ltOf (fun i j : Fin E.length => cmpI (E[i].pl : Int) (E[j].pl : Int)) y x)) = List.finRange E.length from sorted_fin _ _ hF hall _ fun i j => by rw [hlt']; by_cases h : i ≤ j <;> simp [h] <;> omega]
  refine ⟨rfl, sortWorld_below _ _ _ _ _ _ _ _ (Nat.le_refl _) hblk, fun k h1 h2 => sortWorld_old _ _ _ _ _ _ _ k h1 h2, fun k hk => ?_⟩
  have h1 := (holds_sortWorld (fun j : Fin E.length => Value.pointer (some ⟨E[j].b, 0, none⟩)) w blk 0 n F.toArray (List.finRange E.length).toArray os hblk (fun k hk => by
      have hk' : k < F.length := by simpa using hk
      have := hH k hk'
      rw [Nat.zero_add]
      refine ⟨this.1.trans ?_, this.2⟩
      rw [getElem!_pos F.toArray k hk]
      rfl) (by simp [hFl]) k (by simpa using hk)).1
  rw [Nat.zero_add] at h1
  rw [h1, getElem!_pos _ k (by simpa using hk)]
  simp
end Go.Proofs.YtggjillpfclajaaGreat
