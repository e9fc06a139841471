/- Texts of the proof, bundled: Ct. -/
import Derived.Test.YtggjillpfclajaaGreatU08
/- A copy of a disk: impl.newDisk by its contract. -/
namespace Go.Proofs.YtggjillpfclajaaGreat.Kit
open Go.RowKit
/-- A copied list of flags. -/
def MkF (k : Nat) (xs : List Bool) : Mk := .val [k] (fun lo hi w v => ∃ a c, v = .slice a xs.length c ∧ ROwns w lo 4 v (fc xs) ∧ ∀ i, v.ownBlock = some i → i < hi)
  (fun _ _ _ _ _ h hb => by obtain ⟨a, c, h1, h2, h3⟩ := h; exact ⟨a, c, h1, h2.below hb (Nat.le_refl _), h3⟩)
/-- Two lists, the k-th and the l-th value, as a struct. -/
def Mk2 (k l n m : Nat) : Mk := ⟨[k, l], fun _ _ _ v x => ∃ a c a' c', x k = .slice a n c ∧ x l = .slice a' m c' ∧ v = .agg #[.slice a n c, .slice a' m c'], fun _ _ _ _ _ _ h _ => h, fun _ _ _ _ x x' e h => by
  obtain ⟨a, c, a', c', h1, h2, h3⟩ := h
  exact ⟨a, c, a', c', by rw [← e k (by simp), h1], by rw [← e l (by simp), h2], h3⟩⟩
/-- A disk of bits alone, out of the k-th value. -/
def Mk4 (k n m : Nat) : Mk := ⟨[k], fun _ _ _ v x => ∃ a c a' c', x k = .agg #[.slice a n c, .slice a' m c'] ∧ v = .agg #[.slice a n c, .slice a' m c', .slice none 0 0, .slice none 0 0], fun _ _ _ _ _ _ h _ => h, fun _ _ _ _ x x' e h => by
  obtain ⟨a, c, a', c', h1, h3⟩ := h
  exact ⟨a, c, a', c', by rw [← e k (by simp), h1], h3⟩⟩
/-- A new variable. -/
def MkV (T : TypeId) (Z : Array Value) : Mk := .val [] (fun lo hi w v => v = .pointer (some ⟨lo, 0, none⟩) ∧ hi = lo + 1 ∧ AtC w lo T Z) (fun _ _ _ _ _ h hb => ⟨h.1, h.2.1, h.2.2.over hb⟩)
/-- The variable is stored. -/
theorem dz_stored {w W : World} {A : Array Value} {b : Nat} {u v : Value} {xs ys : List Bool} (hA : AtC W w.heap.size 37 A) (hR : AtC W (w.heap.size + 1) 37 noD) (hb : AtC W b 37 noD) (T : Two W (w.heap.size + 1 + 1) u v xs ys) (hne : ∀ k, (u.ownBlock = some k ∨ v.ownBlock = some k) → k ≠ b)
    (bel : Below w.heap.size w W) (hbb : w.heap.size + 1 < b) : Dz w ((((W.setCell ⟨b, 0, none⟩ u).setCell ⟨b, 1, none⟩ v).setCell ⟨b, 2, none⟩ (.slice none 0 0)).setCell ⟨b, 3, none⟩ (.slice none 0 0)) A b u v (.slice none 0 0) (.slice none 0 0) xs ys [] [] := by
  have hoth : ∀ k, k ≠ b → ((((W.setCell ⟨b, 0, none⟩ u).setCell ⟨b, 1, none⟩ v).setCell ⟨b, 2, none⟩ (.slice none 0 0)).setCell ⟨b, 3, none⟩ (.slice none 0 0)).heap[k]? = W.heap[k]? := fun k hk =>
    (((heap_setCell_other _ ⟨b, 3, none⟩ k _ hk).trans (heap_setCell_other _ ⟨b, 2, none⟩ k _ hk)).trans (heap_setCell_other _ ⟨b, 1, none⟩ k _ hk)).trans (heap_setCell_other _ ⟨b, 0, none⟩ k _ hk)
  refine ⟨(hoth _ (by omega)).trans hA, (hoth _ (by omega)).trans hR, (((hb.set 0 u).set 1 v).set 2 (.slice none 0 0)).set 3 (.slice none 0 0), ?_, (((bel.setCell (by show w.heap.size ≤ b; omega) _).setCell (by show w.heap.size ≤ b; omega) _).setCell (by show w.heap.size ≤ b; omega) _).setCell (by show w.heap.size ≤ b; omega) _, hbb⟩
  have hlt : ∀ k, (u.ownBlock = some k ∨ v.ownBlock = some k) → w.heap.size + 1 < k ∧ k ≠ b := fun k hk => ⟨hk.elim (fun e => by have := T.a.lt k e; omega) (fun e => by have := T.b.lt k e; omega), hne k hk⟩
  refine ⟨fun k => u.ownBlock = some k ∨ v.ownBlock = some k, fun _ => False, fun _ => False, [], [], ⟨(T.a.of_heap fun k hk => hoth k (hne k (.inl hk))).base_le (Nat.zero_le _), (T.b.of_heap fun k hk => hoth k (hne k (.inr hk))).base_le (Nat.zero_le _), T.ne⟩, fun k hk => hk, ⟨rfl, TOwns.nil _ _, fun j hj => by simp at hj, fun i j hi => by simp at hi, fun j hj => by simp at hj, (fun k e => by cases e), fun j hj => by simp at hj⟩, ⟨rfl, TOwns.nil _ _, fun j hj => by simp at hj, fun i j hi => by simp at hi, fun j hj => by simp at hj, (fun k e => by cases e), fun j hj => by simp at hj⟩, fun k hk => ⟨id, id⟩, fun k hk => hk.elim, fun k hk => hk.elim (hlt k) (fun e => e.elim (fun e => e.elim) (fun e => e.elim))⟩
end Go.Proofs.YtggjillpfclajaaGreat.Kit
namespace Go.Proofs.YtggjillpfclajaaGreat
open Go.RowKit Kit
set_option maxRecDepth 100000 in
set_option maxHeartbeats 3200000 in
theorem newDisk_any (u v iv bv : Value) (xs ys : List Bool) (is : List Ino) (bs : List Blk) (w : World) (h : DR w u v iv bv xs ys is bs) (hB : Big 1048576 xs ys is bs) :
    Calls Tryz.prog 73 #[.agg #[u, v, iv, bv]] w fun e w' => ∃ u' v' i' b', e = .returned (.agg #[u', v', i', b']) ∧ DO w' (fun k => w.heap.size ≤ k) u' v' i' b' xs ys is bs ∧ Below w.heap.size w w' := by
  have H := hide h
  have HG := hide hB
  have hil : is.length ≤ 1048576 := hB.i
  have hbl : bs.length ≤ 1048576 := hB.b
  obtain ⟨a1, c1, a2, c2, a3, c3, a4, c4, rfl, rfl, rfl, rfl⟩ := h.form
  clear hB h
  go_enter Tryz.func73, Tryz.ntmps73
  go_wp2_with fail
  have HC : Hid (∀ W, Below ((w.alloc (.cells #[.slice a1 xs.length c1, .slice a2 ys.length c2, .slice a3 is.length c3, .slice a4 bs.length c4] 37)).alloc (.cells noD 37)).drew.heap.size ((w.alloc (.cells #[.slice a1 xs.length c1, .slice a2 ys.length c2, .slice a3 is.length c3, .slice a4 bs.length c4] 37)).alloc (.cells noD 37)).drew W → AtC W w.heap.size 37 #[.slice a1 xs.length c1, .slice a2 ys.length c2, .slice a3 is.length c3, .slice a4 bs.length c4] ∧ AtC W (w.heap.size + 1) 37 noD ∧ Below w.heap.size w W ∧ w.heap.size + 1 + 1 ≤ W.heap.size) := fun W b => by
    have b2 := of_drew b
    have k1 := (AtC.new (w.alloc (.cells #[.slice a1 xs.length c1, .slice a2 ys.length c2, .slice a3 is.length c3, .slice a4 bs.length c4] 37)) 37 noD).over b2
    have sz := b2.size
    simp at k1 sz
    exact ⟨((AtC.new w 37 _).alloc _).over b2, k1, (((Below.refl _ w).alloc (Nat.le_refl _) _).alloc (by simp) _).trans (b2.mono (by simp; omega)), sz⟩
  refine wp_region_frm (by kernel_rfl) [0, 1, 2, 3, 4, 5, 6, 7, 8, 9, 10] [11] (fun i => match i with | 0 => .const [] (.pointer (some ⟨w.heap.size, 0, none⟩)) | 1 => .const [0] (.pointer (some ⟨w.heap.size, 0, none⟩)) | 2 => .const [1] (.slice a1 xs.length c1) | 3 => MkF 2 xs | 4 => .const [] (.pointer (some ⟨w.heap.size, 0, none⟩)) | 5 => .const [4] (.pointer (some ⟨w.heap.size, 1, none⟩)) | 6 => .const [5] (.slice a2 ys.length c2) | 7 => MkF 6 ys | 8 => Mk2 3 7 xs.length ys.length | 9 => Mk4 8 xs.length ys.length | 10 => MkV 37 noD | _ => .triv) (fun x => ⟨#[Value.agg #[Value.slice a1 xs.length c1, Value.slice a2 ys.length c2, Value.slice a3 is.length c3, Value.slice a4 bs.length c4], Value.pointer (some { block := w.heap.size, off := 0 }), Value.pointer (some { block := w.heap.size + 1, off := 0 }), x 10, undef, undef, undef, undef, x 0, x 1, x 2, x 3, x 4, x 5, x 6, x 7, x 8, x 9, undef, undef, undef, undef, undef, undef, undef, undef, undef, undef, undef, undef, undef, undef, undef, undef, undef, undef, undef, undef, undef, undef, undef, undef, undef, undef, undef, undef, undef, undef, undef, undef, undef, undef], []⟩) (fun i => match i with | 0 => undef | 1 => undef | 2 => undef | 3 => undef | 4 => undef | 5 => undef | 6 => undef | 7 => undef | 8 => undef | 9 => undef | 10 => undef | _ => undef) rfl (by kernel_rfl) (by kernel_rfl) (by kernel_rfl) rfl ?_ ?_
  · intro jo hj so x iw W hd hp K hK
    simp only [List.mem_cons, List.not_mem_nil, or_false] at hj
    rcases hj with rfl | rfl | rfl | rfl | rfl | rfl | rfl | rfl | rfl | rfl | rfl
    · refine wpOp_step (o := _) rfl fun K' hK' => ?_
      have HK : Hid (∀ v W', Below W.heap.size W W' → ((Mk.const [] (.pointer (some ⟨w.heap.size, 0, none⟩)) : Mk)).P W.heap.size W'.heap.size W' v (upd x 0 v) → K' ⟨#[Value.agg #[Value.slice a1 xs.length c1, Value.slice a2 ys.length c2, Value.slice a3 is.length c3, Value.slice a4 bs.length c4], Value.pointer (some { block := w.heap.size, off := 0 }), Value.pointer (some { block := w.heap.size + 1, off := 0 }), x 10, undef, undef, undef, undef, v, x 1, x 2, x 3, x 4, x 5, x 6, x 7, x 8, x 9, undef, undef, undef, undef, undef, undef, undef, undef, undef, undef, undef, undef, undef, undef, undef, undef, undef, undef, undef, undef, undef, undef, undef, undef, undef, undef, undef, undef, undef, undef, undef, undef, undef, undef], []⟩ W') := fun v W' h1 h2 => hK' _ _ (hK v W' h1 h2)
      clear hK hK' hp hd
      go_simp
      exact HK.out _ _ (Below.refl _ _) rfl
    · refine wpOp_step (o := _) rfl fun K' hK' => ?_
      have HK : Hid (∀ v W', Below W.heap.size W W' → ((Mk.const [0] (.pointer (some ⟨w.heap.size, 0, none⟩)) : Mk)).P W.heap.size W'.heap.size W' v (upd x 1 v) → K' ⟨#[Value.agg #[Value.slice a1 xs.length c1, Value.slice a2 ys.length c2, Value.slice a3 is.length c3, Value.slice a4 bs.length c4], Value.pointer (some { block := w.heap.size, off := 0 }), Value.pointer (some { block := w.heap.size + 1, off := 0 }), x 10, undef, undef, undef, undef, x 0, v, x 2, x 3, x 4, x 5, x 6, x 7, x 8, x 9, undef, undef, undef, undef, undef, undef, undef, undef, undef, undef, undef, undef, undef, undef, undef, undef, undef, undef, undef, undef, undef, undef, undef, undef, undef, undef, undef, undef, undef, undef, undef, undef, undef, undef], []⟩ W') := fun v W' h1 h2 => hK' _ _ (hK v W' h1 h2)
      have e0 : x 0 = .pointer (some ⟨w.heap.size, 0, none⟩) := hp.post 0 (hd 0 (show 0 ∈ [0] from by decide))
      clear hK hK' hp hd
      simp only [e0] at HK ⊢
      go_simp
      exact HK.out _ _ (Below.refl _ _) rfl
    · refine wpOp_step (o := _) rfl fun K' hK' => ?_
      have HK : Hid (∀ v W', Below W.heap.size W W' → ((Mk.const [1] (.slice a1 xs.length c1) : Mk)).P W.heap.size W'.heap.size W' v (upd x 2 v) → K' ⟨#[Value.agg #[Value.slice a1 xs.length c1, Value.slice a2 ys.length c2, Value.slice a3 is.length c3, Value.slice a4 bs.length c4], Value.pointer (some { block := w.heap.size, off := 0 }), Value.pointer (some { block := w.heap.size + 1, off := 0 }), x 10, undef, undef, undef, undef, x 0, x 1, v, x 3, x 4, x 5, x 6, x 7, x 8, x 9, undef, undef, undef, undef, undef, undef, undef, undef, undef, undef, undef, undef, undef, undef, undef, undef, undef, undef, undef, undef, undef, undef, undef, undef, undef, undef, undef, undef, undef, undef, undef, undef, undef, undef], []⟩ W') := fun v W' h1 h2 => hK' _ _ (hK v W' h1 h2)
      have e1 : x 1 = .pointer (some ⟨w.heap.size, 0, none⟩) := hp.post 1 (hd 1 (show 1 ∈ [1] from by decide))
      have q0 : W.cell? ⟨w.heap.size, 0, none⟩ = some (.slice a1 xs.length c1) := (HC.out W hp.bel).1.cell 0
      clear hK hK' hp hd
      simp only [e1] at HK ⊢
      go_simp
      exact HK.out _ _ (Below.refl _ _) rfl
    · refine wpOp_step (o := _) rfl fun K' hK' => ?_
      have HK : Hid (∀ v W', Below W.heap.size W W' → (MkF 2 xs).P W.heap.size W'.heap.size W' v (upd x 3 v) → K' ⟨#[Value.agg #[Value.slice a1 xs.length c1, Value.slice a2 ys.length c2, Value.slice a3 is.length c3, Value.slice a4 bs.length c4], Value.pointer (some { block := w.heap.size, off := 0 }), Value.pointer (some { block := w.heap.size + 1, off := 0 }), x 10, undef, undef, undef, undef, x 0, x 1, x 2, v, x 4, x 5, x 6, x 7, x 8, x 9, undef, undef, undef, undef, undef, undef, undef, undef, undef, undef, undef, undef, undef, undef, undef, undef, undef, undef, undef, undef, undef, undef, undef, undef, undef, undef, undef, undef, undef, undef, undef, undef, undef, undef], []⟩ W') := fun v W' h1 h2 => hK' _ _ (hK v W' h1 h2)
      have e2 : x 2 = .slice a1 xs.length c1 := hp.post 2 (hd 2 (show 2 ∈ [2] from by decide))
      have bl := (HC.out W hp.bel).2.2.1
      clear hK hK' hp hd
      simp only [e2] at HK ⊢
      go_simp
      refine (newB_any _ xs W (H.out.a.below bl (Nat.le_refl _)) HG.out.x).mono ?_
      rintro e w6 ⟨p6, rfl, O6, B6⟩
      obtain ⟨a6, c6, rfl⟩ := O6.rfl.form
      go_simp
      exact HK.out _ _ B6 ⟨a6, c6, rfl, O6, fun i hi => (O6.lt i hi).2⟩
    · refine wpOp_step (o := _) rfl fun K' hK' => ?_
      have HK : Hid (∀ v W', Below W.heap.size W W' → ((Mk.const [] (.pointer (some ⟨w.heap.size, 0, none⟩)) : Mk)).P W.heap.size W'.heap.size W' v (upd x 4 v) → K' ⟨#[Value.agg #[Value.slice a1 xs.length c1, Value.slice a2 ys.length c2, Value.slice a3 is.length c3, Value.slice a4 bs.length c4], Value.pointer (some { block := w.heap.size, off := 0 }), Value.pointer (some { block := w.heap.size + 1, off := 0 }), x 10, undef, undef, undef, undef, x 0, x 1, x 2, x 3, v, x 5, x 6, x 7, x 8, x 9, undef, undef, undef, undef, undef, undef, undef, undef, undef, undef, undef, undef, undef, undef, undef, undef, undef, undef, undef, undef, undef, undef, undef, undef, undef, undef, undef, undef, undef, undef, undef, undef, undef, undef], []⟩ W') := fun v W' h1 h2 => hK' _ _ (hK v W' h1 h2)
      clear hK hK' hp hd
      go_simp
      exact HK.out _ _ (Below.refl _ _) rfl
    · refine wpOp_step (o := _) rfl fun K' hK' => ?_
      have HK : Hid (∀ v W', Below W.heap.size W W' → ((Mk.const [4] (.pointer (some ⟨w.heap.size, 1, none⟩)) : Mk)).P W.heap.size W'.heap.size W' v (upd x 5 v) → K' ⟨#[Value.agg #[Value.slice a1 xs.length c1, Value.slice a2 ys.length c2, Value.slice a3 is.length c3, Value.slice a4 bs.length c4], Value.pointer (some { block := w.heap.size, off := 0 }), Value.pointer (some { block := w.heap.size + 1, off := 0 }), x 10, undef, undef, undef, undef, x 0, x 1, x 2, x 3, x 4, v, x 6, x 7, x 8, x 9, undef, undef, undef, undef, undef, undef, undef, undef, undef, undef, undef, undef, undef, undef, undef, undef, undef, undef, undef, undef, undef, undef, undef, undef, undef, undef, undef, undef, undef, undef, undef, undef, undef, undef], []⟩ W') := fun v W' h1 h2 => hK' _ _ (hK v W' h1 h2)
      have e4 : x 4 = .pointer (some ⟨w.heap.size, 0, none⟩) := hp.post 4 (hd 4 (show 4 ∈ [4] from by decide))
      clear hK hK' hp hd
      simp only [e4] at HK ⊢
      go_simp
      exact HK.out _ _ (Below.refl _ _) rfl
    · refine wpOp_step (o := _) rfl fun K' hK' => ?_
      have HK : Hid (∀ v W', Below W.heap.size W W' → ((Mk.const [5] (.slice a2 ys.length c2) : Mk)).P W.heap.size W'.heap.size W' v (upd x 6 v) → K' ⟨#[Value.agg #[Value.slice a1 xs.length c1, Value.slice a2 ys.length c2, Value.slice a3 is.length c3, Value.slice a4 bs.length c4], Value.pointer (some { block := w.heap.size, off := 0 }), Value.pointer (some { block := w.heap.size + 1, off := 0 }), x 10, undef, undef, undef, undef, x 0, x 1, x 2, x 3, x 4, x 5, v, x 7, x 8, x 9, undef, undef, undef, undef, undef, undef, undef, undef, undef, undef, undef, undef, undef, undef, undef, undef, undef, undef, undef, undef, undef, undef, undef, undef, undef, undef, undef, undef, undef, undef, undef, undef, undef, undef], []⟩ W') := fun v W' h1 h2 => hK' _ _ (hK v W' h1 h2)
      have e5 : x 5 = .pointer (some ⟨w.heap.size, 1, none⟩) := hp.post 5 (hd 5 (show 5 ∈ [5] from by decide))
      have q0 : W.cell? ⟨w.heap.size, 1, none⟩ = some (.slice a2 ys.length c2) := (HC.out W hp.bel).1.cell 1
      clear hK hK' hp hd
      simp only [e5] at HK ⊢
      go_simp
      exact HK.out _ _ (Below.refl _ _) rfl
    · refine wpOp_step (o := _) rfl fun K' hK' => ?_
      have HK : Hid (∀ v W', Below W.heap.size W W' → (MkF 6 ys).P W.heap.size W'.heap.size W' v (upd x 7 v) → K' ⟨#[Value.agg #[Value.slice a1 xs.length c1, Value.slice a2 ys.length c2, Value.slice a3 is.length c3, Value.slice a4 bs.length c4], Value.pointer (some { block := w.heap.size, off := 0 }), Value.pointer (some { block := w.heap.size + 1, off := 0 }), x 10, undef, undef, undef, undef, x 0, x 1, x 2, x 3, x 4, x 5, x 6, v, x 8, x 9, undef, undef, undef, undef, undef, undef, undef, undef, undef, undef, undef, undef, undef, undef, undef, undef, undef, undef, undef, undef, undef, undef, undef, undef, undef, undef, undef, undef, undef, undef, undef, undef, undef, undef], []⟩ W') := fun v W' h1 h2 => hK' _ _ (hK v W' h1 h2)
      have e6 : x 6 = .slice a2 ys.length c2 := hp.post 6 (hd 6 (show 6 ∈ [6] from by decide))
      have bl := (HC.out W hp.bel).2.2.1
      clear hK hK' hp hd
      simp only [e6] at HK ⊢
      go_simp
      refine (newB_any _ ys W (H.out.b.below bl (Nat.le_refl _)) HG.out.y).mono ?_
      rintro e w6 ⟨p6, rfl, O6, B6⟩
      obtain ⟨a6, c6, rfl⟩ := O6.rfl.form
      go_simp
      exact HK.out _ _ B6 ⟨a6, c6, rfl, O6, fun i hi => (O6.lt i hi).2⟩
    · refine wpOp_step (o := _) rfl fun K' hK' => ?_
      have HK : Hid (∀ v W', Below W.heap.size W W' → (Mk2 3 7 xs.length ys.length).P W.heap.size W'.heap.size W' v (upd x 8 v) → K' ⟨#[Value.agg #[Value.slice a1 xs.length c1, Value.slice a2 ys.length c2, Value.slice a3 is.length c3, Value.slice a4 bs.length c4], Value.pointer (some { block := w.heap.size, off := 0 }), Value.pointer (some { block := w.heap.size + 1, off := 0 }), x 10, undef, undef, undef, undef, x 0, x 1, x 2, x 3, x 4, x 5, x 6, x 7, v, x 9, undef, undef, undef, undef, undef, undef, undef, undef, undef, undef, undef, undef, undef, undef, undef, undef, undef, undef, undef, undef, undef, undef, undef, undef, undef, undef, undef, undef, undef, undef, undef, undef, undef, undef], []⟩ W') := fun v W' h1 h2 => hK' _ _ (hK v W' h1 h2)
      have e3 : ∃ a c, x 3 = .slice a xs.length c ∧ ROwns W (iw 3).1 4 (x 3) (fc xs) ∧ ∀ i, (x 3).ownBlock = some i → i < (iw 3).2 := hp.post 3 (hd 3 (show 3 ∈ [3, 7] from by decide))
      have e7 : ∃ a c, x 7 = .slice a ys.length c ∧ ROwns W (iw 7).1 4 (x 7) (fc ys) ∧ ∀ i, (x 7).ownBlock = some i → i < (iw 7).2 := hp.post 7 (hd 7 (show 7 ∈ [3, 7] from by decide))
      clear hK hK' hp hd
      obtain ⟨a5, c5, e3, -⟩ := e3
      obtain ⟨a6, c6, e7, -⟩ := e7
      have HE := hide (And.intro e3 e7)
      simp only [e3, e7] at HK ⊢
      clear e3 e7
      go_simp
      exact HK.out _ _ (Below.refl _ _) ⟨a5, c5, a6, c6, by rw [upd_ne _ _ _ _ (by decide)]; exact HE.out.1, by rw [upd_ne _ _ _ _ (by decide)]; exact HE.out.2, rfl⟩
    · refine wpOp_step (o := _) rfl fun K' hK' => ?_
      have HK : Hid (∀ v W', Below W.heap.size W W' → (Mk4 8 xs.length ys.length).P W.heap.size W'.heap.size W' v (upd x 9 v) → K' ⟨#[Value.agg #[Value.slice a1 xs.length c1, Value.slice a2 ys.length c2, Value.slice a3 is.length c3, Value.slice a4 bs.length c4], Value.pointer (some { block := w.heap.size, off := 0 }), Value.pointer (some { block := w.heap.size + 1, off := 0 }), x 10, undef, undef, undef, undef, x 0, x 1, x 2, x 3, x 4, x 5, x 6, x 7, x 8, v, undef, undef, undef, undef, undef, undef, undef, undef, undef, undef, undef, undef, undef, undef, undef, undef, undef, undef, undef, undef, undef, undef, undef, undef, undef, undef, undef, undef, undef, undef, undef, undef, undef, undef], []⟩ W') := fun v W' h1 h2 => hK' _ _ (hK v W' h1 h2)
      have e8 : ∃ a c a' c', x 3 = .slice a xs.length c ∧ x 7 = .slice a' ys.length c' ∧ x 8 = .agg #[.slice a xs.length c, .slice a' ys.length c'] := hp.post 8 (hd 8 (show 8 ∈ [8] from by decide))
      clear hK hK' hp hd
      obtain ⟨a5, c5, a6, c6, -, -, e8⟩ := e8
      have HE := hide e8
      simp only [e8] at HK ⊢
      clear e8
      go_simp
      exact HK.out _ _ (Below.refl _ _) ⟨a5, c5, a6, c6, by rw [upd_ne _ _ _ _ (by decide)]; exact HE.out, rfl⟩
    · refine wpOp_step (o := _) rfl fun K' hK' => ?_
      have HK : Hid (∀ v W', Below W.heap.size W W' → (MkV 37 noD).P W.heap.size W'.heap.size W' v (upd x 10 v) → K' ⟨#[Value.agg #[Value.slice a1 xs.length c1, Value.slice a2 ys.length c2, Value.slice a3 is.length c3, Value.slice a4 bs.length c4], Value.pointer (some { block := w.heap.size, off := 0 }), Value.pointer (some { block := w.heap.size + 1, off := 0 }), v, undef, undef, undef, undef, x 0, x 1, x 2, x 3, x 4, x 5, x 6, x 7, x 8, x 9, undef, undef, undef, undef, undef, undef, undef, undef, undef, undef, undef, undef, undef, undef, undef, undef, undef, undef, undef, undef, undef, undef, undef, undef, undef, undef, undef, undef, undef, undef, undef, undef, undef, undef], []⟩ W') := fun v W' h1 h2 => hK' _ _ (hK v W' h1 h2)
      clear hK hK' hp hd
      go_simp
      exact HK.out _ _ ((Below.refl _ W).alloc (Nat.le_refl _) _) ⟨rfl, by simp, AtC.new W 37 _⟩
  · intro x iw W hp
    obtain ⟨a5, c5, e3, O3, own3⟩ := hp.post 3 (by decide)
    obtain ⟨a6, c6, e7, O7, own7⟩ := hp.post 7 (by decide)
    obtain ⟨a5', c5', a6', c6', f3, f7, e8⟩ := hp.post 8 (by decide)
    obtain ⟨a5'', c5'', a6'', c6'', g8, e9⟩ := hp.post 9 (by decide)
    obtain ⟨e10, z10, A10⟩ := hp.post 10 (by decide)
    rw [e3] at f3
    rw [e7] at f7
    rw [e8] at g8
    simp only [Value.slice.injEq, true_and] at f3 f7
    obtain ⟨rfl, rfl⟩ := f3
    obtain ⟨rfl, rfl⟩ := f7
    simp only [Value.agg.injEq, Array.mk.injEq, List.cons.injEq, Value.slice.injEq, true_and, and_true] at g8
    obtain ⟨⟨rfl, rfl⟩, rfl, rfl⟩ := g8
    have p37 := hp.apart 3 (by decide) 7 (by decide) (by decide)
    have p310 := hp.apart 3 (by decide) 10 (by decide) (by decide)
    have p710 := hp.apart 7 (by decide) 10 (by decide) (by decide)
    have l3 := hp.lo 3 (by decide)
    have l7 := hp.lo 7 (by decide)
    have l10 := hp.lo 10 (by decide)
    simp [World.drew] at l3 l7 l10
    obtain ⟨kA, kR, bel, -⟩ := HC.out W hp.bel
    have hT : Two W (w.heap.size + 1 + 1) (.slice a5 xs.length c5) (.slice a6 ys.length c6) xs ys := by
      rw [e3] at O3 own3
      rw [e7] at O7 own7
      exact ⟨O3.base_le l3.1, O7.base_le l7.1, fun k h1 h2 => by have := own3 k h1; have := own7 k h2; have := (O3.lt k h1).1; have := (O7.lt k h2).1; omega⟩
    have hne : ∀ k, ((Value.slice a5 xs.length c5).ownBlock = some k ∨ (Value.slice a6 ys.length c6).ownBlock = some k) → k ≠ (iw 10).1 := fun k hk => by
      rw [e3] at O3 own3
      rw [e7] at O7 own7
      rcases hk with hk | hk
      · have := own3 k hk; have := (O3.lt k hk).1; omega
      · have := own7 k hk; have := (O7.lt k hk).1; omega
    have D0 := dz_stored kA kR A10 hT hne bel (by omega)
    have y0 : W.cell? ⟨(iw 10).1, 0, none⟩ = some (.slice none 0 0) := A10.cell 0
    have y1 : W.cell? ⟨(iw 10).1, 1, none⟩ = some (.slice none 0 0) := A10.cell 1
    have y2 : W.cell? ⟨(iw 10).1, 2, none⟩ = some (.slice none 0 0) := A10.cell 2
    have y3 : W.cell? ⟨(iw 10).1, 3, none⟩ = some (.slice none 0 0) := A10.cell 3
    have z0 := A10.frozen 0
    have z1 := A10.frozen 1
    have z2 := A10.frozen 2
    have z3 := A10.frozen 3
    generalize (iw 10).1 = b at *
    have HD := hide D0
    clear hp own3 own7 O3 O7 hne kA kR bel z10 p37 p310 p710 l3 l7 l10 D0 hT A10 HC
    simp only [e3, e7, e8, e9, e10]
    clear e3 e7 e8 e9 e10
    go_wp2_with fail
    rw [List.filterMap_nil]
    obtain ⟨W1, hW1⟩ : ∃ W1, (((W.setCell ⟨b, 0, none⟩ (.slice a5 xs.length c5)).setCell ⟨b, 1, none⟩ (.slice a6 ys.length c6)).setCell ⟨b, 2, none⟩ (.slice none 0 0)).setCell ⟨b, 3, none⟩ (.slice none 0 0) = W1 := ⟨_, rfl⟩
    rw [hW1] at HD ⊢
    have q2 : W1.cell? ⟨w.heap.size, 2, none⟩ = some (.slice a3 is.length c3) := HD.out.arg.cell 2
    clear y0 y1 y2 y3 z0 z1 z2 z3 hW1
    go_wp2
    go_loopw [21] (fun i wr => ∃ j : Nat, j ≤ is.length ∧ i = .int .i64 j ∧ Hid (∃ iv, Dz w wr #[.slice a1 xs.length c1, .slice a2 ys.length c2, .slice a3 is.length c3, .slice a4 bs.length c4] b (.slice a5 xs.length c5) (.slice a6 ys.length c6) iv (.slice none 0 0) xs ys (is.take j) [])) (fun i _ => is.length - (intOf i).toNat)
    case atStart => exact ⟨0, Nat.zero_le _, rfl, _, HD.out⟩
    case round =>
      obtain ⟨j, hj, rfl, HR⟩ := hrel
      obtain ⟨iv, hds⟩ := HR.out
      by_cases hlt : j < is.length
      · obtain ⟨ti, k1, k2, k3⟩ := hds.appI
        obtain ⟨gi, ci, rfl, -⟩ := k1.form
        obtain ⟨ai, cai, ei, -, hci⟩ := H.out.i.ino
        obtain ⟨g, off, p, rfl, hg, m1, m2, m3, hp⟩ := hci j hlt
        simp only [Value.slice.injEq] at ei
        obtain ⟨rfl, -, rfl⟩ := ei
        have hpl := HG.out.p j hlt
        have htk : is.take j ++ [is[j]] = is.take (j + 1) := List.take_append_getElem hlt
        obtain ⟨X, hX⟩ : ∃ X, is[j] = X := ⟨_, rfl⟩
        obtain ⟨y, s, z⟩ := X
        rw [hX] at m1 m2 hp hpl htk
        simp only at m1 m2 hp hpl
        obtain ⟨pa, pc, rfl⟩ := hp.form
        have hti : ti.length = j := by rw [k2, List.length_take]; omega
        have n1 := (hds.bel.cell (p := ⟨g, off + j * 3, none⟩) hg).trans m1
        have n2 := (hds.bel.cell (p := ⟨g, off + j * 3 + 1, none⟩) hg).trans m2
        have n3 := (hds.bel.cell (p := ⟨g, off + j * 3 + 2, none⟩) hg).trans m3
        have HP : Hid (RInts (wr.alloc (.cells #[.int .i64 y, .int .i64 s, .slice pa z.length pc] 111)) (.slice pa z.length pc) z) := (hp.below hds.bel (Nat.le_refl _)).alloc _
        have HX := hide (And.intro k1 (And.intro k3 hti))
        have HDS := hide hds
        have HPL := hide hpl
        have HTK := hide htk
        have j0 : (0 : Int) ≤ (j : Int) := by omega
        have j1 : (j : Int) < (is.length : Int) := by omega
        clear k1 k2 k3 hds HR hti m1 m2 m3 hp hpl htk hci hX hg q2
        go_wp2_with fail
        refine (newI_any _ z _ HP.out HPL.out).mono ?_
        rintro e w6 ⟨u6, rfl, O6, B6⟩
        obtain ⟨pb, pd, rfl⟩ := O6.rints.form
        have K6 : AtC w6 wr.heap.size 111 #[.int .i64 y, .int .i64 s, .slice pa z.length pc] := (AtC.new wr 111 _).over B6
        have hs6 : wr.heap.size + 1 ≤ w6.heap.size := by have := B6.size; simpa using this
        have bW : Below wr.heap.size wr ((w6.setCell ⟨wr.heap.size, 2, none⟩ (.slice pb z.length pd)).alloc (.cells #[.int .i64 y, .int .i64 s, .slice pb z.length pd] 111)) := ((((Below.refl _ wr).alloc (Nat.le_refl _) _).trans (B6.mono (by simp))).setCell (Nat.le_refl _) _).alloc (by simp; omega) _
        have O7 : ROwns ((w6.setCell ⟨wr.heap.size, 2, none⟩ (.slice pb z.length pd)).alloc (.cells #[.int .i64 y, .int .i64 s, .slice pb z.length pd] 111)) (wr.heap.size + 1) 3 (.slice pb z.length pd) (ic z) := ((O6.base_le (by simp)).setCell_other (by omega) _).alloc _
        have K7 := AtC.new (w6.setCell ⟨wr.heap.size, 2, none⟩ (.slice pb z.length pd)) 111 #[.int .i64 y, .int .i64 s, .slice pb z.length pd]
        have K8 : AtC ((w6.setCell ⟨wr.heap.size, 2, none⟩ (.slice pb z.length pd)).alloc (.cells #[.int .i64 y, .int .i64 s, .slice pb z.length pd] 111)) wr.heap.size 111 #[.int .i64 y, .int .i64 s, .slice pb z.length pd] := (K6.set 2 (.slice pb z.length pd)).alloc _
        have kc2 : w6.cell? ⟨wr.heap.size, 2, none⟩ = some (.slice pa z.length pc) := K6.cell 2
        have kc3 : (w6.setCell ⟨wr.heap.size, 2, none⟩ (.slice pb z.length pd)).cell? ⟨wr.heap.size, 0, none⟩ = some (.int .i64 y) := (K6.set 2 (.slice pb z.length pd)).cell 0
        have kc4 : (w6.setCell ⟨wr.heap.size, 2, none⟩ (.slice pb z.length pd)).cell? ⟨wr.heap.size, 1, none⟩ = some (.int .i64 s) := (K6.set 2 (.slice pb z.length pd)).cell 1
        have kc5 : (w6.setCell ⟨wr.heap.size, 2, none⟩ (.slice pb z.length pd)).cell? ⟨wr.heap.size, 2, none⟩ = some (.slice pb z.length pd) := (K6.set 2 (.slice pb z.length pd)).cell 2
        have f2 := K6.frozen 2
        have dB := HDS.out.below (w1 := w6) (((Below.refl _ wr).alloc (Nat.le_refl _) _).trans (B6.mono (by simp)))
        have hbb := HDS.out.box.lt
        have cb : (w6.setCell ⟨wr.heap.size, 2, none⟩ (.slice pb z.length pd)).cell? ⟨b, 2, none⟩ = some (.slice gi ti.length ci) := (dB.box.other (by omega) _).cell 2
        have hT : TOwns ((w6.setCell ⟨wr.heap.size, 2, none⟩ (.slice pb z.length pd)).alloc (.cells #[.int .i64 y, .int .i64 s, .slice pb z.length pd] 111)) 111 (.slice gi ti.length ci) ti := HX.out.1.of_heap fun k hk => bW.block k (HX.out.1.lt k hk)
        obtain ⟨W6, hW6⟩ : ∃ W6, w6.setCell ⟨wr.heap.size, 2, none⟩ (.slice pb z.length pd) = W6 := ⟨_, rfl⟩
        rw [hW6] at bW O7 K7 K8 hT kc3 kc4 kc5 cb
        have HN : Hid (∀ v' w', TOwns w' 111 v' (ti ++ [(.int .i64 y, .int .i64 s, .slice pb z.length pd)]) → (W6.alloc (.cells #[.int .i64 y, .int .i64 s, .slice pb z.length pd] 111)).grownBy w' (Value.slice gi ti.length ci).ownBlock → (∀ k, v'.ownBlock = some k → (Value.slice gi ti.length ci).ownBlock = some k ∨ (W6.alloc (.cells #[.int .i64 y, .int .i64 s, .slice pb z.length pd] 111)).heap.size ≤ k) → (AtC w' b 37 #[.slice a5 xs.length c5, .slice a6 ys.length c6, .slice gi ti.length ci, .slice none 0 0]) ∧ Dz w (w'.setCell ⟨b, 2, none⟩ v') #[.slice a1 xs.length c1, .slice a2 ys.length c2, .slice (some ⟨g, off, none⟩) is.length c3, .slice a4 bs.length c4] b (.slice a5 xs.length c5) (.slice a6 ys.length c6) v' (.slice none 0 0) xs ys (is.take j ++ [(y, s, z)]) []) := fun v' w' h1 h2 h3 => HX.out.2.1 _ w' v' _ (y, s, z) bW ⟨rfl, rfl, O7.base_le (Nat.zero_le _)⟩ (fun k hk => by have := (O7.lt k hk).1; omega) h1 h2 h3
        have HTL : Hid (ti.length ≤ 1000000000000) := by have := HX.out.2.2; show ti.length ≤ _; omega
        have HK7 := hide K7
        have HT := hide hT
        clear hT O7 O6 bW K6 K7 K8 B6 dB HX HDS HP n1 n2 n3
        go_wp2_with (at_builtin; refine wpList_step fun K' hK' => ?_; refine step_append_three _ rfl (.tmp 30) (.tmp 32) 34 rfl 111 Tryz.u34 _ 40 Tryz.i111 rfl (by decide) (.slice gi ti.length ci) ti rfl HT.out W6.heap.size (.int .i64 y, .int .i64 s, .slice pb z.length pd) rfl ⟨HK7.out.cell 0, HK7.out.cell 1, HK7.out.cell 2⟩ ⟨rfl, rfl, rfl⟩ HTL.out ?_; intro v9 w9 T9 G9 V9; refine hK' _ _ ?_; obtain ⟨e9, D9⟩ := HN.out v9 w9 T9 G9 V9; obtain ⟨g9, c9, rfl, -⟩ := T9.form; rw [show (ti ++ [((.int .i64 y, .int .i64 s, .slice pb z.length pd) : V3)]).length = ti.length + 1 from List.length_append] at D9 ⊢; have z2 := e9.frozen 2; have z3 : w9.cell? ⟨b, 2, none⟩ = some (.slice gi ti.length ci) := e9.cell 2; have H9 := hide D9; clear e9 D9 T9 G9 V9 HN HK7 HT HTL hK')
        go_roundw
        case rel => exact ⟨j + 1, by omega, by go_num, _, by rw [← HTK.out]; exact H9.out⟩
        case measure => simp [intOf]; omega
      · have hj2 : j = is.length := by omega
        subst hj2
        rw [List.take_length] at hds
        obtain ⟨-, -, -, -, a7, c7, -, -, -, -, rfl, -⟩ := hds.dsk.dr.form
        have HD2 := hide hds
        have b0 : wr.cell? ⟨w.heap.size, 3, none⟩ = some (.slice a4 bs.length c4) := hds.arg.cell 3
        clear hds HR q2
        go_wp2_with fail
        go_loopw [39] (fun i wr => ∃ j : Nat, j ≤ bs.length ∧ i = .int .i64 j ∧ Hid (∃ bv, Dz w wr #[.slice a1 xs.length c1, .slice a2 ys.length c2, .slice a3 is.length c3, .slice a4 bs.length c4] b (.slice a5 xs.length c5) (.slice a6 ys.length c6) (.slice a7 is.length c7) bv xs ys is (bs.take j))) (fun i _ => bs.length - (intOf i).toNat)
        case atStart => exact ⟨0, Nat.zero_le _, rfl, _, HD2.out⟩
        case round =>
          obtain ⟨j, hj, rfl, HR⟩ := hrel
          obtain ⟨bv, hds⟩ := HR.out
          by_cases hlt : j < bs.length
          · obtain ⟨ai, cai, ei, -, hci⟩ := H.out.k.blk
            obtain ⟨g, off, p, rfl, hg, m1, m2, m3, hp⟩ := hci j hlt
            simp only [Value.slice.injEq] at ei
            obtain ⟨rfl, -, rfl⟩ := ei
            have hpl := HG.out.s j hlt
            have htk : bs.take j ++ [bs[j]] = bs.take (j + 1) := List.take_append_getElem hlt
            obtain ⟨X, hX⟩ : ∃ X, bs[j] = X := ⟨_, rfl⟩
            obtain ⟨y, z, s⟩ := X
            rw [hX] at m1 m3 hp hpl htk
            simp only at m1 m3 hp
            obtain ⟨pa, pc, rfl⟩ := hp.form
            obtain ⟨ti, k1, k2, k3⟩ := (hds.alloc (.cells #[.bool y, .slice pa z.length pc, .string s] 115)).drew.appB
            obtain ⟨gi, ci, rfl, -⟩ := k1.form
            have hti : ti.length = j := by rw [k2, List.length_take]; omega
            have n1 := (hds.bel.cell (p := ⟨g, off + j * 3, none⟩) hg).trans m1
            have n2 := (hds.bel.cell (p := ⟨g, off + j * 3 + 1, none⟩) hg).trans m2
            have n3 := (hds.bel.cell (p := ⟨g, off + j * 3 + 2, none⟩) hg).trans m3
            have HX := hide (And.intro k1 (And.intro k3 hti))
            have HDS := hide hds
            have HP : Hid (∀ W, Below w.heap.size w W → RSl W (.slice pa z.length pc) z) := fun W b => hp.below b (Nat.le_refl _)
            have HPL := hide hpl
            have HTK := hide htk
            have HC : Hid (∀ W, Below (wr.alloc (.cells #[.bool y, .slice pa z.length pc, .string s] 115)).drew.heap.size (wr.alloc (.cells #[.bool y, .slice pa z.length pc, .string s] 115)).drew W → W.cell? ⟨b, 3, none⟩ = some (.slice gi ti.length ci) ∧ AtC W wr.heap.size 115 #[.bool y, .slice pa z.length pc, .string s] ∧ Below w.heap.size w W) := fun W b => by
              have hw := (HDS.out.alloc _).drew.below b
              exact ⟨hw.box.cell 3, (AtC.new wr 115 _).drew.over b, hw.bel⟩
            have j0 : (0 : Int) ≤ (j : Int) := by omega
            have j1 : (j : Int) < (bs.length : Int) := by omega
            clear k1 k2 k3 hds HR hti m1 m2 m3 hp hpl htk hci hX hg b0
            go_wp2_with fail
            refine wp_region_frm (by kernel_rfl) [0, 1, 2, 3, 4] [5, 6, 7] (fun i => match i with | 0 => .const [] (.pointer (some ⟨b, 3, none⟩)) | 1 => .const [0] (.slice gi ti.length ci) | 2 => .const [] (.agg #[.bool y, .slice pa z.length pc, .string s]) | 3 => MkK 2 y s z | 4 => MkK1 3 y s | _ => .triv) (fun xb => ⟨#[Value.agg #[Value.slice a1 xs.length c1, Value.slice a2 ys.length c2, Value.slice a3 is.length c3, Value.slice (some { block := g, off := off }) bs.length c4], Value.pointer (some { block := w.heap.size, off := 0 }), Value.pointer (some { block := w.heap.size + 1, off := 0 }), Value.pointer (some { block := b, off := 0 }), undef, u5, undef, Value.pointer (some { block := wr.heap.size, off := 0 }), x 0, x 1, x 2, Value.slice a5 xs.length c5, x 4, x 5, x 6, Value.slice a6 ys.length c6, Value.agg #[Value.slice a5 xs.length c5, Value.slice a6 ys.length c6], Value.agg #[Value.slice a5 xs.length c5, Value.slice a6 ys.length c6, Value.slice none 0 0, Value.slice none 0 0], Value.pointer (some { block := w.heap.size, off := 2 }), Value.slice a3 is.length c3, Value.int IntKind.i64 ↑is.length, Value.int IntKind.i64 ↑is.length, Value.bool false, u23, u24, u25, u26, u27, u28, u29, u30, u31, u32, u33, u34, u35, Value.pointer (some { block := w.heap.size, off := 3 }), Value.slice (some { block := g, off := off }) bs.length c4, Value.int IntKind.i64 ↑bs.length, Value.int IntKind.i64 ↑j, Value.bool true, Value.pointer (some { block := g, off := off + j * 3 }), Value.agg #[Value.bool y, Value.slice pa z.length pc, Value.string s], xb 0, xb 1, xb 2, xb 3, xb 4, u48, u49, u50, undef], []⟩) (fun i => match i with | 0 => u43 | 1 => u44 | 2 => u45 | 3 => u46 | 4 => u47 | _ => undef) rfl (by kernel_rfl) (by kernel_rfl) (by kernel_rfl) rfl ?_ ?_
            · intro jo hj so xb iw W hd hp K hK
              simp only [List.mem_cons, List.not_mem_nil, or_false] at hj
              rcases hj with rfl | rfl | rfl | rfl | rfl
              · refine wpOp_step (o := _) rfl fun K' hK' => ?_
                have HK : Hid (∀ v W', Below W.heap.size W W' → ((Mk.const [] (.pointer (some ⟨b, 3, none⟩)) : Mk)).P W.heap.size W'.heap.size W' v (upd xb 0 v) → K' ⟨#[Value.agg #[Value.slice a1 xs.length c1, Value.slice a2 ys.length c2, Value.slice a3 is.length c3, Value.slice (some { block := g, off := off }) bs.length c4], Value.pointer (some { block := w.heap.size, off := 0 }), Value.pointer (some { block := w.heap.size + 1, off := 0 }), Value.pointer (some { block := b, off := 0 }), undef, u5, undef, Value.pointer (some { block := wr.heap.size, off := 0 }), x 0, x 1, x 2, Value.slice a5 xs.length c5, x 4, x 5, x 6, Value.slice a6 ys.length c6, Value.agg #[Value.slice a5 xs.length c5, Value.slice a6 ys.length c6], Value.agg #[Value.slice a5 xs.length c5, Value.slice a6 ys.length c6, Value.slice none 0 0, Value.slice none 0 0], Value.pointer (some { block := w.heap.size, off := 2 }), Value.slice a3 is.length c3, Value.int IntKind.i64 ↑is.length, Value.int IntKind.i64 ↑is.length, Value.bool false, u23, u24, u25, u26, u27, u28, u29, u30, u31, u32, u33, u34, u35, Value.pointer (some { block := w.heap.size, off := 3 }), Value.slice (some { block := g, off := off }) bs.length c4, Value.int IntKind.i64 ↑bs.length, Value.int IntKind.i64 ↑j, Value.bool true, Value.pointer (some { block := g, off := off + j * 3 }), Value.agg #[Value.bool y, Value.slice pa z.length pc, Value.string s], v, xb 1, xb 2, xb 3, xb 4, u48, u49, u50, undef], []⟩ W') := fun v W' h1 h2 => hK' _ _ (hK v W' h1 h2)
                clear hK hK' hp hd
                go_simp
                exact HK.out _ _ (Below.refl _ _) rfl
              · refine wpOp_step (o := _) rfl fun K' hK' => ?_
                have HK : Hid (∀ v W', Below W.heap.size W W' → ((Mk.const [0] (.slice gi ti.length ci) : Mk)).P W.heap.size W'.heap.size W' v (upd xb 1 v) → K' ⟨#[Value.agg #[Value.slice a1 xs.length c1, Value.slice a2 ys.length c2, Value.slice a3 is.length c3, Value.slice (some { block := g, off := off }) bs.length c4], Value.pointer (some { block := w.heap.size, off := 0 }), Value.pointer (some { block := w.heap.size + 1, off := 0 }), Value.pointer (some { block := b, off := 0 }), undef, u5, undef, Value.pointer (some { block := wr.heap.size, off := 0 }), x 0, x 1, x 2, Value.slice a5 xs.length c5, x 4, x 5, x 6, Value.slice a6 ys.length c6, Value.agg #[Value.slice a5 xs.length c5, Value.slice a6 ys.length c6], Value.agg #[Value.slice a5 xs.length c5, Value.slice a6 ys.length c6, Value.slice none 0 0, Value.slice none 0 0], Value.pointer (some { block := w.heap.size, off := 2 }), Value.slice a3 is.length c3, Value.int IntKind.i64 ↑is.length, Value.int IntKind.i64 ↑is.length, Value.bool false, u23, u24, u25, u26, u27, u28, u29, u30, u31, u32, u33, u34, u35, Value.pointer (some { block := w.heap.size, off := 3 }), Value.slice (some { block := g, off := off }) bs.length c4, Value.int IntKind.i64 ↑bs.length, Value.int IntKind.i64 ↑j, Value.bool true, Value.pointer (some { block := g, off := off + j * 3 }), Value.agg #[Value.bool y, Value.slice pa z.length pc, Value.string s], xb 0, v, xb 2, xb 3, xb 4, u48, u49, u50, undef], []⟩ W') := fun v W' h1 h2 => hK' _ _ (hK v W' h1 h2)
                have e0 : xb 0 = .pointer (some ⟨b, 3, none⟩) := hp.post 0 (hd 0 (show 0 ∈ [0] from by decide))
                have q0 := (HC.out W hp.bel).1
                clear hK hK' hp hd
                simp only [e0] at HK ⊢
                go_simp
                exact HK.out _ _ (Below.refl _ _) rfl
              · refine wpOp_step (o := _) rfl fun K' hK' => ?_
                have HK : Hid (∀ v W', Below W.heap.size W W' → ((Mk.const [] (.agg #[.bool y, .slice pa z.length pc, .string s]) : Mk)).P W.heap.size W'.heap.size W' v (upd xb 2 v) → K' ⟨#[Value.agg #[Value.slice a1 xs.length c1, Value.slice a2 ys.length c2, Value.slice a3 is.length c3, Value.slice (some { block := g, off := off }) bs.length c4], Value.pointer (some { block := w.heap.size, off := 0 }), Value.pointer (some { block := w.heap.size + 1, off := 0 }), Value.pointer (some { block := b, off := 0 }), undef, u5, undef, Value.pointer (some { block := wr.heap.size, off := 0 }), x 0, x 1, x 2, Value.slice a5 xs.length c5, x 4, x 5, x 6, Value.slice a6 ys.length c6, Value.agg #[Value.slice a5 xs.length c5, Value.slice a6 ys.length c6], Value.agg #[Value.slice a5 xs.length c5, Value.slice a6 ys.length c6, Value.slice none 0 0, Value.slice none 0 0], Value.pointer (some { block := w.heap.size, off := 2 }), Value.slice a3 is.length c3, Value.int IntKind.i64 ↑is.length, Value.int IntKind.i64 ↑is.length, Value.bool false, u23, u24, u25, u26, u27, u28, u29, u30, u31, u32, u33, u34, u35, Value.pointer (some { block := w.heap.size, off := 3 }), Value.slice (some { block := g, off := off }) bs.length c4, Value.int IntKind.i64 ↑bs.length, Value.int IntKind.i64 ↑j, Value.bool true, Value.pointer (some { block := g, off := off + j * 3 }), Value.agg #[Value.bool y, Value.slice pa z.length pc, Value.string s], xb 0, xb 1, v, xb 3, xb 4, u48, u49, u50, undef], []⟩ W') := fun v W' h1 h2 => hK' _ _ (hK v W' h1 h2)
                have k0 := (HC.out W hp.bel).2.1
                have q0 : W.cell? ⟨wr.heap.size, 0, none⟩ = some (.bool y) := k0.cell 0
                have q1 : W.cell? ⟨wr.heap.size, 1, none⟩ = some (.slice pa z.length pc) := k0.cell 1
                have q2 : W.cell? ⟨wr.heap.size, 2, none⟩ = some (.string s) := k0.cell 2
                clear k0
                clear hK hK' hp hd
                go_simp
                exact HK.out _ _ (Below.refl _ _) rfl
              · refine wpOp_step (o := _) rfl fun K' hK' => ?_
                have HK : Hid (∀ v W', Below W.heap.size W W' → (MkK 2 y s z).P W.heap.size W'.heap.size W' v (upd xb 3 v) → K' ⟨#[Value.agg #[Value.slice a1 xs.length c1, Value.slice a2 ys.length c2, Value.slice a3 is.length c3, Value.slice (some { block := g, off := off }) bs.length c4], Value.pointer (some { block := w.heap.size, off := 0 }), Value.pointer (some { block := w.heap.size + 1, off := 0 }), Value.pointer (some { block := b, off := 0 }), undef, u5, undef, Value.pointer (some { block := wr.heap.size, off := 0 }), x 0, x 1, x 2, Value.slice a5 xs.length c5, x 4, x 5, x 6, Value.slice a6 ys.length c6, Value.agg #[Value.slice a5 xs.length c5, Value.slice a6 ys.length c6], Value.agg #[Value.slice a5 xs.length c5, Value.slice a6 ys.length c6, Value.slice none 0 0, Value.slice none 0 0], Value.pointer (some { block := w.heap.size, off := 2 }), Value.slice a3 is.length c3, Value.int IntKind.i64 ↑is.length, Value.int IntKind.i64 ↑is.length, Value.bool false, u23, u24, u25, u26, u27, u28, u29, u30, u31, u32, u33, u34, u35, Value.pointer (some { block := w.heap.size, off := 3 }), Value.slice (some { block := g, off := off }) bs.length c4, Value.int IntKind.i64 ↑bs.length, Value.int IntKind.i64 ↑j, Value.bool true, Value.pointer (some { block := g, off := off + j * 3 }), Value.agg #[Value.bool y, Value.slice pa z.length pc, Value.string s], xb 0, xb 1, xb 2, v, xb 4, u48, u49, u50, undef], []⟩ W') := fun v W' h1 h2 => hK' _ _ (hK v W' h1 h2)
                have e2 : xb 2 = .agg #[.bool y, .slice pa z.length pc, .string s] := hp.post 2 (hd 2 (show 2 ∈ [2] from by decide))
                have bl := (HC.out W hp.bel).2.2
                clear hK hK' hp hd
                simp only [e2] at HK ⊢
                go_simp
                refine (newK_any y s _ z W (HP.out W bl) HPL.out).mono ?_
                rintro e w6 ⟨p6, rfl, O6, B6⟩
                go_simp
                exact HK.out _ _ B6 ⟨p6, rfl, O6, fun i hi => (O6.lt i hi).2⟩
              · refine wpOp_step (o := _) rfl fun K' hK' => ?_
                have HK : Hid (∀ v W', Below W.heap.size W W' → (MkK1 3 y s).P W.heap.size W'.heap.size W' v (upd xb 4 v) → K' ⟨#[Value.agg #[Value.slice a1 xs.length c1, Value.slice a2 ys.length c2, Value.slice a3 is.length c3, Value.slice (some { block := g, off := off }) bs.length c4], Value.pointer (some { block := w.heap.size, off := 0 }), Value.pointer (some { block := w.heap.size + 1, off := 0 }), Value.pointer (some { block := b, off := 0 }), undef, u5, undef, Value.pointer (some { block := wr.heap.size, off := 0 }), x 0, x 1, x 2, Value.slice a5 xs.length c5, x 4, x 5, x 6, Value.slice a6 ys.length c6, Value.agg #[Value.slice a5 xs.length c5, Value.slice a6 ys.length c6], Value.agg #[Value.slice a5 xs.length c5, Value.slice a6 ys.length c6, Value.slice none 0 0, Value.slice none 0 0], Value.pointer (some { block := w.heap.size, off := 2 }), Value.slice a3 is.length c3, Value.int IntKind.i64 ↑is.length, Value.int IntKind.i64 ↑is.length, Value.bool false, u23, u24, u25, u26, u27, u28, u29, u30, u31, u32, u33, u34, u35, Value.pointer (some { block := w.heap.size, off := 3 }), Value.slice (some { block := g, off := off }) bs.length c4, Value.int IntKind.i64 ↑bs.length, Value.int IntKind.i64 ↑j, Value.bool true, Value.pointer (some { block := g, off := off + j * 3 }), Value.agg #[Value.bool y, Value.slice pa z.length pc, Value.string s], xb 0, xb 1, xb 2, xb 3, v, u48, u49, u50, undef], []⟩ W') := fun v W' h1 h2 => hK' _ _ (hK v W' h1 h2)
                have e3 : ∃ u, xb 3 = .agg #[.bool y, u, .string s] ∧ SOwns W (iw 3).1 132 u z ∧ ∀ i, u.ownBlock = some i → i < (iw 3).2 := hp.post 3 (hd 3 (show 3 ∈ [3] from by decide))
                clear hK hK' hp hd
                obtain ⟨p7, e7, O7, -⟩ := e3
                obtain ⟨pb, pd, rfl⟩ := O7.rsl.form
                clear O7
                have HE := hide e7
                simp only [e7] at HK ⊢
                clear e7
                go_simp
                exact HK.out _ _ ((Below.refl _ W).alloc (Nat.le_refl _) _) ⟨rfl, by simp, .slice pb z.length pd, by rw [upd_ne _ _ _ _ (by decide)]; exact HE.out, AtC.new W 115 _⟩
            · intro xb iw W hp
              have e1 : xb 1 = .slice gi ti.length ci := hp.post 1 (by decide)
              obtain ⟨p7, e7, O7, -⟩ := hp.post 3 (by decide)
              obtain ⟨e8, -, p8, f8, A8⟩ := hp.post 4 (by decide)
              rw [e7] at f8
              simp only [Value.agg.injEq, Array.mk.injEq, List.cons.injEq, and_true, true_and] at f8
              subst f8
              have l7 := (hp.lo 3 (by decide)).1
              have hbel := hp.bel
              have O9 : SOwns W (wr.alloc (.cells #[.bool y, .slice pa z.length pc, .string s] 115)).drew.heap.size 132 p7 z := O7.base_le l7
              obtain ⟨pb, pd, rfl⟩ := O9.rsl.form
              have hT : TOwns W 115 (.slice gi ti.length ci) ti := HX.out.1.of_heap fun k hk => hbel.block k (HX.out.1.lt k hk)
              have HN : Hid (∀ v' w', TOwns w' 115 v' (ti ++ [(.bool y, .slice pb z.length pd, .string s)]) → W.grownBy w' (Value.slice gi ti.length ci).ownBlock → (∀ k, v'.ownBlock = some k → (Value.slice gi ti.length ci).ownBlock = some k ∨ W.heap.size ≤ k) → (AtC w' b 37 #[.slice a5 xs.length c5, .slice a6 ys.length c6, .slice a7 is.length c7, .slice gi ti.length ci]) ∧ Dz w (w'.setCell ⟨b, 3, none⟩ v') #[.slice a1 xs.length c1, .slice a2 ys.length c2, .slice a3 is.length c3, .slice (some ⟨g, off, none⟩) bs.length c4] b (.slice a5 xs.length c5) (.slice a6 ys.length c6) (.slice a7 is.length c7) v' xs ys is (bs.take j ++ [(y, z, s)])) := fun v' w' h1 h2 h3 => HX.out.2.1 W w' v' _ (y, z, s) hbel ⟨rfl, O9.base_le (Nat.zero_le _), rfl⟩ (fun k hk => (O9.lt k hk).1) h1 h2 h3
              have HTL : Hid (ti.length ≤ 1000000000000) := by have := HX.out.2.2; show ti.length ≤ _; omega
              have HA8 := hide A8
              have HT := hide hT
              generalize (iw 4).1 = g8 at *
              clear hT O9 O7 hp l7 hbel A8 HX HDS
              simp only [e1, e7, e8]
              refine wpList_step fun K' hK' => ?_
              refine step_append_three _ rfl (.tmp 44) (.tmp 47) 35 rfl 115 Tryz.u35 _ 48 Tryz.i115 rfl (by decide) (.slice gi ti.length ci) ti rfl HT.out g8 (.bool y, .slice pb z.length pd, .string s) rfl ⟨HA8.out.cell 0, HA8.out.cell 1, HA8.out.cell 2⟩ ⟨rfl, rfl, rfl⟩ HTL.out ?_
              intro v9 w9 T9 G9 V9
              refine hK' _ _ ?_
              obtain ⟨e9, D9⟩ := HN.out v9 w9 T9 G9 V9
              obtain ⟨g9, c9, rfl, -⟩ := T9.form
              have e10 : (ti ++ [((.bool y, .slice pb z.length pd, .string s) : V3)]).length = ti.length + 1 := by simp
              rw [e10] at D9 ⊢
              clear e10
              have z2 := e9.frozen 3
              have z3 : w9.cell? ⟨b, 3, none⟩ = some (.slice gi ti.length ci) := e9.cell 3
              have H9 := hide D9
              clear e9 D9 T9 G9 V9 HN HA8 HT HTL hK' K' e1 e7 e8
              go_wp2_with fail
              rw [List.filterMap_nil]
              go_wp2
              go_roundw
              case rel => exact ⟨j + 1, by omega, by go_num, _, by rw [← HTK.out]; exact H9.out⟩
              case measure => simp [intOf]; omega
          · have hj3 : j = bs.length := by omega
            subst hj3
            rw [List.take_length] at hds
            obtain ⟨-, -, -, -, -, -, p8, q8, -, -, -, rfl⟩ := hds.dsk.dr.form
            have H7 := hide hds
            have b0 : wr.cell? ⟨w.heap.size, 3, none⟩ = some (.slice a4 bs.length c4) := hds.arg.cell 3
            have y0 : wr.cell? ⟨b, 0, none⟩ = some (.slice a5 xs.length c5) := hds.box.cell 0
            have y1 : wr.cell? ⟨b, 1, none⟩ = some (.slice a6 ys.length c6) := hds.box.cell 1
            have y2 : wr.cell? ⟨b, 2, none⟩ = some (.slice a7 is.length c7) := hds.box.cell 2
            have y3 : wr.cell? ⟨b, 3, none⟩ = some (.slice p8 bs.length q8) := hds.box.cell 3
            have r0 : wr.cell? ⟨w.heap.size + 1, 0, none⟩ = some (.slice none 0 0) := hds.res.cell 0
            have r1 : wr.cell? ⟨w.heap.size + 1, 1, none⟩ = some (.slice none 0 0) := hds.res.cell 1
            have r2 : wr.cell? ⟨w.heap.size + 1, 2, none⟩ = some (.slice none 0 0) := hds.res.cell 2
            have r3 : wr.cell? ⟨w.heap.size + 1, 3, none⟩ = some (.slice none 0 0) := hds.res.cell 3
            have v0 := hds.res.frozen 0
            have v1 := hds.res.frozen 1
            have v2 := hds.res.frozen 2
            have v3 := hds.res.frozen 3
            clear hds HR
            go_wp2
            refine bodyPost_ret (v := .agg #[.slice a5 xs.length c5, .slice a6 ys.length c6, .slice a7 is.length c7, .slice p8 bs.length q8]) (by simp [results, go_sem, r0, r1, r2, r3]) rfl ⟨_, _, _, _, rfl, ?_, ?_⟩
            · exact (H7.out.dsk.of_heap fun k hk _ => ((((heap_setCell_other _ ⟨w.heap.size + 1, 3, none⟩ k _ (by show k ≠ w.heap.size + 1; omega)).trans (heap_setCell_other _ ⟨w.heap.size + 1, 2, none⟩ k _ (by show k ≠ w.heap.size + 1; omega))).trans (heap_setCell_other _ ⟨w.heap.size + 1, 1, none⟩ k _ (by show k ≠ w.heap.size + 1; omega))).trans (heap_setCell_other _ ⟨w.heap.size + 1, 0, none⟩ k _ (by show k ≠ w.heap.size + 1; omega)))).mono fun k hk => by omega
            · exact (((H7.out.bel.setCell (by simp) _).setCell (by simp) _).setCell (by simp) _).setCell (by simp) _
end Go.Proofs.YtggjillpfclajaaGreat
