
/- Lists of inodes and of blocks that are marked, and held against their marks: the mathematics, laws.markInodeS, laws.markBlockS, laws.heldInodeS, laws.heldBlockS by their contracts. -/
import Derived.Test.YtgjbenbodegnjaaTs
import Derived.Test.YtgjbenbodegnjaaKEq
import Derived.Test.YtgjbenbodegnjaaIIn
import Derived.Test.YtgjbenbodegnjaaBIn
import Derived.Deep.RegionHeld3
namespace Go.Proofs.Ytgjbenbodegnjaa.Kit
open Go.RowKit
/-- The number behind a list whose members take so many marks each. -/
def cnt {α : Type} (sz : α → Nat) : Nat → List α → Nat
  | k, [] => k
  | k, x :: r => cnt sz (k + sz x) r
/-- The list, each member marked from its number on. -/
def mkL {α : Type} (sz : α → Nat) (mk : Nat → α → α) : Nat → List α → List α
  | _, [] => []
  | k, x :: r => mk k x :: mkL sz mk (k + sz x) r
section
variable {α : Type} {sz : α → Nat} {mk : Nat → α → α}
theorem cnt_append (k : Nat) (a b : List α) : cnt sz k (a ++ b) = cnt sz (cnt sz k a) b := by
  induction a generalizing k with
  | nil => rfl
  | cons x r ih => exact ih _
theorem mkL_append (k : Nat) (a b : List α) : mkL sz mk k (a ++ b) = mkL sz mk k a ++ mkL sz mk (cnt sz k a) b := by
  induction a generalizing k with
  | nil => rfl
  | cons x r ih => simp only [List.cons_append, mkL, cnt, ih]
theorem mkL_length (k : Nat) (l : List α) : (mkL sz mk k l).length = l.length := by
  induction l generalizing k with
  | nil => rfl
  | cons x r ih => simp only [mkL, List.length_cons, ih]
theorem cnt_ge (k : Nat) (l : List α) : k ≤ cnt sz k l := by
  induction l generalizing k with
  | nil => exact Nat.le_refl _
  | cons x r ih => have := ih (k + sz x); simp only [cnt]; omega
theorem cnt_len (hs : ∀ x, 1 ≤ sz x) (k : Nat) (l : List α) : k + l.length ≤ cnt sz k l := by
  induction l generalizing k with
  | nil => exact Nat.le_refl _
  | cons x r ih => have := ih (k + sz x); have := hs x; simp only [cnt, List.length_cons]; omega
theorem take_split (l : List α) (j : Nat) (h : j < l.length) : l.take (j + 1) = l.take j ++ [l[j]] := by simp
theorem cnt_succ (k : Nat) (l : List α) (j : Nat) (h : j < l.length) : cnt sz k (l.take (j + 1)) = cnt sz k (l.take j) + sz l[j] := by
  rw [take_split l j h, cnt_append]; rfl
theorem cnt_le (k : Nat) (l : List α) (j : Nat) (h : j < l.length) : cnt sz k (l.take j) + sz l[j] ≤ cnt sz k l := by
  rw [← cnt_succ k l j h]
  conv => rhs; rw [← List.take_append_drop (j + 1) l, cnt_append]
  exact cnt_ge _ _
theorem cnt_all (k : Nat) (l : List α) : cnt sz k (l.take l.length) = cnt sz k l := by rw [List.take_length]
/-- The first j members are marked already. -/
def mkd (sz : α → Nat) (mk : Nat → α → α) (k j : Nat) (l : List α) : List α := mkL sz mk k (l.take j) ++ l.drop j
theorem mkd_length (k j : Nat) (l : List α) : (mkd sz mk k j l).length = l.length := by
  rw [mkd, List.length_append, mkL_length, List.length_take, List.length_drop]; omega
theorem mkd_zero (k : Nat) (l : List α) : mkd sz mk k 0 l = l := by simp [mkd, mkL]
theorem mkd_all (k : Nat) (l : List α) : mkd sz mk k l.length l = mkL sz mk k l := by simp [mkd]
theorem mkd_at (k j : Nat) (l : List α) (h : j < l.length) (h' : j < (mkd sz mk k j l).length) : (mkd sz mk k j l)[j] = l[j] := by
  have e : (mkL sz mk k (l.take j)).length = j := by rw [mkL_length, List.length_take]; omega
  simp only [mkd]
  rw [List.getElem_append_right (by omega)]
  simp [e]
theorem mkd_set (k j : Nat) (l : List α) (h : j < l.length) : (mkd sz mk k j l).set j (mk (cnt sz k (l.take j)) l[j]) = mkd sz mk k (j + 1) l := by
  have e : (mkL sz mk k (l.take j)).length = j := by rw [mkL_length, List.length_take]; omega
  simp only [mkd]
  rw [take_split l j h, mkL_append, List.set_append_right _ _ (by omega), e, List.drop_eq_getElem_cons h]
  simp only [Nat.sub_self, List.set_cons_zero, mkL, List.append_assoc, List.cons_append, List.nil_append]
theorem mkL_at (k j : Nat) (l : List α) (h : j < l.length) (h' : j < (mkL sz mk k l).length) : (mkL sz mk k l)[j] = mk (cnt sz k (l.take j)) l[j] := by
  have e : (mkL sz mk k (l.take j)).length = j := by rw [mkL_length, List.length_take]; omega
  have s : mkL sz mk k l = mkL sz mk k (l.take j) ++ mk (cnt sz k (l.take j)) l[j] :: mkL sz mk (cnt sz k (l.take j) + sz l[j]) (l.drop (j + 1)) := by
    conv => lhs; rw [← List.take_append_drop j l, mkL_append, List.drop_eq_getElem_cons h]
    rfl
  have key : ∀ m : List α, mkL sz mk k l = m → ∀ q : j < m.length, (mkL sz mk k l)[j] = m[j] := by rintro m rfl q; rfl
  rw [key _ s (by rw [← s]; exact h')]
  rw [List.getElem_append_right (by omega)]
  simp [e]
end
theorem TOwns.set01 {w : World} {g cap : Nat} {e : TypeId} {l : List V3} (h : TOwns w e (.slice (some ⟨g, 0, none⟩) l.length cap) l) (k : Nat) (hk : k < l.length) (x y : Value) :
    TOwns ((w.setCell ⟨g, k * 3, none⟩ x).setCell ⟨g, k * 3 + 1, none⟩ y) e (.slice (some ⟨g, 0, none⟩) l.length cap) (l.set k (x, y, l[k].2.2)) := by
  have h1 := h.set0 k hk x
  have h2 : TOwns (w.setCell ⟨g, k * 3, none⟩ x) e (.slice (some ⟨g, 0, none⟩) (l.set k (x, l[k].2.1, l[k].2.2)).length cap) (l.set k (x, l[k].2.1, l[k].2.2)) := by rw [List.length_set]; exact h1
  have h3 := h2.set1 k (by simpa using hk) y
  simp only [List.length_set, List.getElem_set_self, List.set_set] at h3
  exact h3
theorem GO.len_of {α : Type} {K : Kd α} {w : World} {S : Nat → Prop} {v : Value} {ts : List V3} {xs : List α} (h : GO K w S v ts xs) {a : Option Addr} {n cap : Nat} (hv : v = .slice a n cap) : n = ts.length := by
  obtain ⟨a', c, e, _⟩ := h.row.form
  rw [hv] at e
  simp only [Value.slice.injEq] at e
  exact e.2.1
/-- One inode is marked: two cells are stored, and its list is turned. -/
theorem GO.markI {w w1 : World} {S : Nat → Prop} {v : Value} {ts : List V3} {xs : List Ino} (h : GO KI w S v ts xs) {g n cap : Nat} (hv : v = .slice (some ⟨g, 0, none⟩) n cap) (j : Nat) (hj : j < ts.length) (a b : Int) (l' : List Int)
    (hr : ROwns w1 0 3 ts[j].2.2 (ic l')) (hg : ((w.setCell ⟨g, j * 3, none⟩ (.int .i64 a)).setCell ⟨g, j * 3 + 1, none⟩ (.int .i64 b)).grownBy w1 ts[j].2.2.ownBlock) :
    GO KI w1 S v (ts.set j (.int .i64 a, .int .i64 b, ts[j].2.2)) (xs.set j (a, b, l')) ∧ Chg S w w1 := by
  have hlen := h.len_of hv
  subst hlen
  have ho := h.out j hj
  have hgw : g < w.heap.size := h.row.lt g (by rw [hv]; rfl)
  have hoth : ∀ k, k ≠ g → ((w.setCell ⟨g, j * 3, none⟩ (.int .i64 a)).setCell ⟨g, j * 3 + 1, none⟩ (.int .i64 b)).heap[k]? = w.heap[k]? := fun k hk =>
    (heap_setCell_other _ ⟨g, j * 3 + 1, none⟩ k _ (by simpa using hk)).trans (heap_setCell_other _ ⟨g, j * 3, none⟩ k _ (by simpa using hk))
  have hsz : ((w.setCell ⟨g, j * 3, none⟩ (.int .i64 a)).setCell ⟨g, j * 3 + 1, none⟩ (.int .i64 b)).heap.size = w.heap.size := by simp
  have hvg : v.ownBlock = some g := by rw [hv]; rfl
  have hrow := (hv ▸ h.row : TOwns w KI.T (.slice (some ⟨g, 0, none⟩) ts.length cap) ts).set01 j hj (.int .i64 a) (.int .i64 b)
  have hf : ∀ k, k < w.heap.size → v.ownBlock ≠ some k → (KI.p ts[j]).ownBlock ≠ some k → w1.heap[k]? = w.heap[k]? := fun k hk h1 h2 =>
    (hg.block k (by rw [hsz]; exact hk) (fun e => h2 (by rw [show (KI.p ts[j]) = ts[j].2.2 from rfl, ← e]))).trans (hoth k (fun e => h1 (by rw [e, hvg])))
  refine ⟨h.turn j hj _ _ ?_ ⟨rfl, rfl, hr⟩ hf (fun k hk => .inl hk) (fun _ h => h) (fun k hk => h.si j hj k hk), ⟨by rw [hg.os]; rfl, by rw [hg.tape]; rfl, by rw [hg.output]; rfl, by have := hg.size; rw [hsz] at this; exact this, fun k hk hn => hf k hk (fun e => hn (h.so k e)) (fun e => hn (h.si j hj k e))⟩⟩
  rw [hv]
  exact hrow.of_heap fun k hk => by
    have e : k = g := by simpa [Value.ownBlock] using hk.symm
    subst e
    exact hg.block k (by rw [hsz]; exact hgw) (fun e => ho k (by rw [show (KI.p ts[j]) = ts[j].2.2 from rfl, ← e]) hvg)
/-- One block is marked: a cell is stored, its slots are turned, a text is made and stored. -/
theorem GO.markB {w w1 w2 : World} {S : Nat → Prop} {v : Value} {ts : List V3} {xs : List Blk} (h : GO KB w S v ts xs) {g n cap : Nat} (hv : v = .slice (some ⟨g, 0, none⟩) n cap) (j : Nat) (hj : j < ts.length) (a : Bool) (t : ByteArray) (l' : List Sl)
    (hr : SOwns w1 0 96 ts[j].2.1 l') (hg : (w.setCell ⟨g, j * 3, none⟩ (.bool a)).grownBy w1 ts[j].2.1.ownBlock) (hb : Below w1.heap.size w1 w2) :
    GO KB (w2.setCell ⟨g, j * 3 + 2, none⟩ (.string t)) S v (ts.set j (.bool a, ts[j].2.1, .string t)) (xs.set j (a, l', t)) ∧ Chg S w (w2.setCell ⟨g, j * 3 + 2, none⟩ (.string t)) := by
  have hlen := h.len_of hv
  subst hlen
  have ho := h.out j hj
  have hgw : g < w.heap.size := h.row.lt g (by rw [hv]; rfl)
  have hsz : (w.setCell ⟨g, j * 3, none⟩ (.bool a)).heap.size = w.heap.size := by simp
  have hsz1 : w.heap.size ≤ w1.heap.size := by have := hg.size; rw [hsz] at this; exact this
  have hvg : v.ownBlock = some g := by rw [hv]; rfl
  have hin : ∀ k, ts[j].2.1.ownBlock = some k → k ≠ g := fun k hk e => ho k hk (by rw [e, hvg])
  have hrow := (hv ▸ h.row : TOwns w KB.T (.slice (some ⟨g, 0, none⟩) ts.length cap) ts).set0 j hj (.bool a)
  have hrow2 : TOwns w2 KB.T (.slice (some ⟨g, 0, none⟩) ts.length cap) (ts.set j (.bool a, ts[j].2.1, ts[j].2.2)) := hrow.of_heap fun k hk => by
    have e : k = g := by simpa [Value.ownBlock] using hk.symm
    subst e
    exact (hb.block k (by omega)).trans (hg.block k (by rw [hsz]; exact hgw) (fun e => hin k e.symm rfl))
  have hrow3 : TOwns w2 KB.T (.slice (some ⟨g, 0, none⟩) (ts.set j (.bool a, ts[j].2.1, ts[j].2.2)).length cap) (ts.set j (.bool a, ts[j].2.1, ts[j].2.2)) := by rw [List.length_set]; exact hrow2
  have hrow4 := hrow3.set2 j (by simpa using hj) (.string t)
  simp only [List.length_set, List.getElem_set_self, List.set_set] at hrow4
  have hf : ∀ k, k < w.heap.size → v.ownBlock ≠ some k → (KB.p ts[j]).ownBlock ≠ some k → (w2.setCell ⟨g, j * 3 + 2, none⟩ (.string t)).heap[k]? = w.heap[k]? := fun k hk h1 h2 =>
    have hne : k ≠ g := fun e => h1 (by rw [e, hvg])
    ((heap_setCell_other w2 ⟨g, j * 3 + 2, none⟩ k _ (by simpa using hne)).trans (hb.block k (by omega))).trans ((hg.block k (by rw [hsz]; exact hk) (fun e => h2 (by rw [show (KB.p ts[j]) = ts[j].2.1 from rfl, ← e]))).trans (heap_setCell_other w ⟨g, j * 3, none⟩ k _ (by simpa using hne)))
  have hr2 : SOwns (w2.setCell ⟨g, j * 3 + 2, none⟩ (.string t)) 0 96 ts[j].2.1 l' := (hr.below hb (Nat.le_refl _)).setCell_other (fun e => hin g e rfl) _
  refine ⟨h.turn j hj _ _ ?_ ⟨rfl, hr2, rfl⟩ hf (fun k hk => .inl hk) (fun _ h => h) (fun k hk => h.si j hj k hk), ⟨by show w2.os = w.os; rw [hb.os, hg.os]; rfl, by show w2.tape = w.tape; rw [hb.tape, hg.tape]; rfl, by show w2.output = w.output; rw [hb.output, hg.output]; rfl, by have := hb.size; simp; omega, fun k hk hn => hf k hk (fun e => hn (h.so k e)) (fun e => hn (h.si j hj k e))⟩⟩
  rw [hv]
  exact hrow4
end Go.Proofs.Ytgjbenbodegnjaa.Kit
