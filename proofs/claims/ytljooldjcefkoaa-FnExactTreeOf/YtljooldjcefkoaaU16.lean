/- Texts of the proof, bundled: Mt, Mk, Nm, Ml, Md, Bg. -/
import Derived.Deep.RegionHeld3
import Derived.Handy
import Derived.Test.YtljooldjcefkoaaU15
import Derived.Test.YtljooldjcefkoaaU04
import Derived.Test.YtljooldjcefkoaaU03
import Derived.Test.YtljooldjcefkoaaU01
import Derived.Test.YtljooldjcefkoaaU02
import Derived.Test.YtljooldjcefkoaaU12
/- What the program tells of a right disk is what the specification tells, in the order of paths. No Go function is spoken of. -/
namespace Go.Proofs.Ytljooldjcefkoaa
open Go.RowKit Kit
theorem toList_inj {a b : ByteArray} (h : a.toList = b.toList) : a = b := by
  rw [ByteArray.toList_eq, ByteArray.toList_eq] at h
  exact ByteArray.ext (Array.toList_inj.1 h)
/-- Names in order, no two alike. -/
def SN (l : List Sl) : Prop := l.Pairwise fun s t => bl s.1.toList t.1.toList = true
theorem ins_has {s : Sl} : ∀ {l : List Sl}, SN l → (∃ t ∈ l, t.1 = s.1) → ins l s = l
  | [], _, ⟨t, h, _⟩ => by cases h
  | x :: r, hs, ⟨t, ht, e⟩ => by
    have h1 := List.pairwise_cons.1 hs
    rw [ins]
    by_cases c1 : bl s.1.toList x.1.toList = true
    · exfalso
      rcases List.mem_cons.1 ht with rfl | ht
      · rw [e, bl_irrefl] at c1; cases c1
      · have h2 := h1.1 t ht
        rw [e] at h2
        rw [bl_asymm h2] at c1; cases c1
    · rw [if_neg c1]
      by_cases c2 : bl x.1.toList s.1.toList = true
      · rw [if_pos c2, ins_has h1.2]
        rcases List.mem_cons.1 ht with rfl | ht
        · rw [e, bl_irrefl] at c2; cases c2
        · exact ⟨t, ht, e⟩
      · rw [if_neg c2]
theorem ins_new {s : Sl} : ∀ {l : List Sl}, ¬ (∃ t ∈ l, t.1 = s.1) → (ins l s).Perm (s :: l)
  | [], _ => by rw [ins]
  | x :: r, hn => by
    rw [ins]
    split
    · exact .refl _
    · split
      · exact ((ins_new (l := r) (fun ⟨t, ht, e⟩ => hn ⟨t, by simp [ht], e⟩)).cons x).trans (.swap s x r)
      · rename_i c1 c2
        exfalso
        refine hn ⟨x, by simp, toList_inj (bl_total ?_ ?_)⟩
        · simpa using c2
        · simpa using c1
theorem ins_sorted {s : Sl} : ∀ {l : List Sl}, SN l → SN (ins l s)
  | [], _ => by rw [ins]; exact List.pairwise_singleton _ _
  | x :: r, h => by
    have h1 := List.pairwise_cons.1 h
    rw [ins]
    by_cases c1 : bl s.1.toList x.1.toList = true
    · rw [if_pos c1]
      refine List.pairwise_cons.2 ⟨fun t ht => ?_, h⟩
      rcases List.mem_cons.1 ht with rfl | ht
      · exact c1
      · exact bl_trans c1 (h1.1 t ht)
    · rw [if_neg c1]
      by_cases c2 : bl x.1.toList s.1.toList = true
      · rw [if_pos c2]
        refine List.pairwise_cons.2 ⟨fun t ht => ?_, ins_sorted h1.2⟩
        rcases ins_mem ht with rfl | ht
        · exact c2
        · exact h1.1 t ht
      · rw [if_neg c2]; exact h
theorem foldl_firsts : ∀ (ns l : List Sl) (seen : List ByteArray), SN l → (∀ nm, (∃ t ∈ l, t.1 = nm) ↔ nm ∈ seen) → (ns.foldl ins l).Perm (l ++ firsts ns seen) ∧ SN (ns.foldl ins l)
  | [], l, seen, hs, _ => ⟨by simp [firsts], hs⟩
  | s :: r, l, seen, hs, hm => by
    rw [List.foldl_cons, firsts]
    cases hb : hasN seen s.1 with
    | true =>
      have hin := hasN_iff.1 hb
      rw [ins_has hs ((hm s.1).2 hin), if_pos rfl]
      refine foldl_firsts r l _ hs fun nm => ?_
      rw [hm nm]
      simp only [List.mem_append, List.mem_singleton]
      exact ⟨.inl, fun e => e.elim id (fun e => by rw [e]; exact hin)⟩
    | false =>
      have hni : ¬ s.1 ∈ seen := fun e => by rw [hasN_iff.2 e] at hb; cases hb
      have hp := ins_new (l := l) (s := s) (fun e => hni ((hm s.1).1 e))
      rw [if_neg (by decide)]
      have ih := foldl_firsts r (ins l s) (seen ++ [s.1]) (ins_sorted hs) fun nm => ?_
      · refine ⟨ih.1.trans ((hp.append_right _).trans ?_), ih.2⟩
        rw [List.cons_append]
        exact List.perm_middle.symm
      · simp only [List.mem_append, List.mem_singleton]
        rw [← hm nm]
        constructor
        · rintro ⟨t, ht, e⟩
          rcases List.mem_cons.1 (hp.mem_iff.1 ht) with rfl | h
          · exact .inr e.symm
          · exact .inl ⟨t, h, e⟩
        · rintro (⟨t, ht, e⟩ | e)
          · exact ⟨t, hp.mem_iff.2 (by simp [ht]), e⟩
          · exact ⟨s, hp.mem_iff.2 (by simp), e.symm⟩
theorem kids_firsts (is : List Ino) (bs : List Blk) (i : Int) : (kids is bs i).Perm (firsts (named is bs i) []) ∧ SN (kids is bs i) := by
  have := foldl_firsts (named is bs i) [] [] List.Pairwise.nil (fun nm => by simp)
  rw [List.nil_append] at this
  exact this
theorem flatMap_perm {α β : Type} {f g : α → List β} : ∀ (l : List α), (∀ x ∈ l, (f x).Perm (g x)) → (l.flatMap f).Perm (l.flatMap g)
  | [], _ => .refl _
  | x :: r, h => by
    rw [List.flatMap_cons, List.flatMap_cons]
    exact (h x (by simp)).append (flatMap_perm r fun y hy => h y (by simp [hy]))
theorem tellI_none {is : List Ino} {bs : List Blk} {n : Nat} {i : Int} {p : ByteArray} (h : ¬ kindAt is i = 2) : tellI is bs n i p = [] := by
  cases n with
  | zero => rfl
  | succ n => rw [tellI]; unfold kids named; rw [if_neg h]; rfl
theorem tellI_perm {is : List Ino} {bs : List Blk} (hR : RD is bs) : ∀ (n : Nat) (i : Int) (p : ByteArray), (tellI is bs n i p).Perm (walkS is bs n i p)
  | 0, _, _ => .refl _
  | n + 1, i, p => by
    rw [tellI, walkS]
    refine (List.Perm.flatMap_right _ (kids_firsts is bs i).1).trans (flatMap_perm _ fun s _ => ?_)
    unfold nodeI tellS
    by_cases h0 : kindAt is s.2 = 0
    · rw [if_pos h0, if_pos h0]
    · rw [if_neg h0, if_neg h0]
      by_cases h2 : kindAt is s.2 = 2
      · rw [if_pos h2]
        have ht : textsAt is bs s.2 = (⟨#[]⟩, ⟨#[]⟩) := by unfold textsAt; rw [if_neg (by rw [h2]; decide)]
        rw [ht, h2]
        exact (tellI_perm hR n _ _).cons _
      · rw [if_neg h2, tellI_none h2]
        have hb : (kindAt is s.2 == 2) = false := by simpa using h2
        rw [hb]
/-- A path behind another path and a mark. -/
theorem joinP_list (p nm : ByteArray) : (joinP p nm).toList = p.toList ++ (47 :: nm.toList) := by
  unfold joinP
  rw [ByteArray.toList_eq, ByteArray.toList_eq, ByteArray.toList_eq]
  simp [ByteArray.data_append]
/-- What comes behind a name: nothing, or a mark and more. -/
def Tail (r : List UInt8) : Prop := r = [] ∨ ∃ q, r = 47 :: q
theorem bl_app (c : List UInt8) {a b : List UInt8} (h : bl a b = true) : bl (c ++ a) (c ++ b) = true := by
  induction c with
  | nil => exact h
  | cons x c ih => exact bl_cons.2 (.inr ⟨rfl, ih⟩)
theorem bl_tail : ∀ {a b r q : List UInt8}, bl a b = true → (∀ x ∈ b, (47 : UInt8) < x) → Tail r → bl (a ++ r) (b ++ q) = true
  | [], [], _, _, h, _, _ => by simp [bl, Op.bytesLess] at h
  | [], y :: b, r, q, _, hb, hr => by
    rcases hr with rfl | ⟨r', rfl⟩
    · simp [bl, Op.bytesLess]
    · exact bl_cons.2 (.inl (hb y (by simp)))
  | _ :: _, [], _, _, h, _, _ => by simp [bl, Op.bytesLess] at h
  | x :: a, y :: b, r, q, h, hb, hr => by
    rcases bl_cons.1 h with h1 | ⟨rfl, h1⟩
    · exact bl_cons.2 (.inl h1)
    · exact bl_cons.2 (.inr ⟨rfl, bl_tail h1 (fun z hz => hb z (by simp [hz])) hr⟩)
theorem name_bytes {s : ByteArray} (h : nameOk s = true) : ∀ x ∈ s.toList, (47 : UInt8) < x := fun x hx => by
  rw [ByteArray.toList_eq] at hx
  obtain ⟨j, hj, rfl⟩ := List.getElem_of_mem hx
  have hj' : j < s.size := hj
  have h1 := (of_decide_eq_true h).2 j hj'
  have h2 : (s.data.toList[j]).toNat = (s[j]).toNat := rfl
  have h3 : 47 < (s[j]).toNat := by
    unfold chN at h1
    simp at h1
    omega
  exact UInt8.lt_iff_toNat_lt.2 (by rw [h2]; exact h3)
/-- Paths of what is told of a slot. -/
theorem node_path {is : List Ino} {bs : List Blk} {n : Nat} (ih : ∀ (i : Int) (p : ByteArray) (x : Nd), x ∈ tellI is bs n i p → ∃ q, x.1.toList = p.toList ++ 47 :: q) {p : ByteArray} {s : Sl} {x : Nd} (h : x ∈ nodeI is bs (tellI is bs n) p s) : ∃ r, Tail r ∧ x.1.toList = p.toList ++ (47 :: (s.1.toList ++ r)) := by
  unfold nodeI at h
  split at h
  · cases h
  · rcases List.mem_cons.1 h with rfl | h
    · exact ⟨[], .inl rfl, by rw [List.append_nil]; exact joinP_list p s.1⟩
    · obtain ⟨q, e⟩ := ih _ _ x h
      refine ⟨47 :: q, .inr ⟨q, rfl⟩, ?_⟩
      rw [e, joinP_list, List.append_assoc, List.cons_append]
theorem tell_path {is : List Ino} {bs : List Blk} : ∀ (n : Nat) (i : Int) (p : ByteArray) (x : Nd), x ∈ tellI is bs n i p → ∃ q, x.1.toList = p.toList ++ 47 :: q
  | 0, _, _, _, h => by cases h
  | n + 1, i, p, x, h => by
    rw [tellI] at h
    obtain ⟨s, -, hx⟩ := List.mem_flatMap.1 h
    obtain ⟨r, -, e⟩ := node_path (tell_path n) hx
    exact ⟨_, e⟩
theorem tell_sorted {is : List Ino} {bs : List Blk} (hR : RD is bs) : ∀ (n : Nat) (i : Int) (p : ByteArray), (tellI is bs n i p).Pairwise fun x y => bl x.1.toList y.1.toList = true
  | 0, _, _ => List.Pairwise.nil
  | n + 1, i, p => by
    rw [tellI]
    refine List.pairwise_flatMap.2 ⟨fun s _ => ?_, (kids_firsts is bs i).2.imp_of_mem fun {s t} hs ht hst x hx y hy => ?_⟩
    · unfold nodeI
      split
      · exact List.Pairwise.nil
      · refine List.pairwise_cons.2 ⟨fun y hy => ?_, tell_sorted hR n _ _⟩
        obtain ⟨q, e⟩ := tell_path n _ _ y hy
        rw [e]
        have : bl ((joinP p s.1).toList ++ []) ((joinP p s.1).toList ++ 47 :: q) = true := bl_app _ (by simp [bl, Op.bytesLess])
        rw [List.append_nil] at this
        exact this
    · obtain ⟨r, hr, e1⟩ := node_path (tell_path n) hx
      obtain ⟨q, -, e2⟩ := node_path (tell_path n) hy
      rw [e1, e2]
      refine bl_app _ (bl_cons.2 (.inr ⟨rfl, bl_tail hst (name_bytes (hR.name (kids_mem ht))) hr⟩))
/-- Sorted lists of the same nodes are the same. -/
theorem tree_same {is : List Ino} {bs : List Blk} (hR : RD is bs) {l : List Nd} {i : Int} {p : ByteArray} {n : Nat} (h1 : l.Perm (walkS is bs n i p)) (h2 : Srt l) : l = tellI is bs n i p := by
  have hs := tell_sorted hR n i p
  have hp : l.Perm (tellI is bs n i p) := h1.trans (tellI_perm hR n i p).symm
  have hd : ∀ a b, a ∈ tellI is bs n i p → b ∈ tellI is bs n i p → a.1.toList = b.1.toList → a = b := by
    intro a b ha hb e
    obtain ⟨j, hj, rfl⟩ := List.getElem_of_mem ha
    obtain ⟨k, hk, rfl⟩ := List.getElem_of_mem hb
    rcases Nat.lt_trichotomy j k with h | h | h
    · have := List.pairwise_iff_getElem.1 hs j k hj hk h
      rw [e, bl_irrefl] at this; cases this
    · subst h; rfl
    · have := List.pairwise_iff_getElem.1 hs k j hk hj h
      rw [e, bl_irrefl] at this; cases this
  refine List.Perm.eq_of_pairwise (le := fun (x y : Nd) => bl y.1.toList x.1.toList = false) (fun a b ha hb q1 q2 => hd a b (hp.mem_iff.1 ha) hb (bl_total q2 q1)) h2 (hs.imp fun h => bl_asymm h) hp
end Go.Proofs.Ytljooldjcefkoaa
/- Lists of inodes and of blocks that are marked, and held against their marks: the mathematics, laws.markInodeS, laws.markBlockS, laws.heldInodeS, laws.heldBlockS by their contracts. -/
namespace Go.Proofs.Ytljooldjcefkoaa.Kit
open Go.RowKit
/-- The number behind a list whose members take so many marks each. -/
def cnt {α : Type} (sz : α → Nat) : Nat → List α → Nat
  | k, [] => k
  | k, x :: r => cnt sz (k + sz x) r
/-- The list, each member marked from its number on. -/
def mkL {α : Type} (sz : α → Nat) (mk : Nat → α → α) : Nat → List α → List α
  | _, [] => []
  | k, x :: r => mk k x :: mkL sz mk (k + sz x) r
section
variable {α : Type} {sz : α → Nat} {mk : Nat → α → α}
theorem cnt_append (k : Nat) (a b : List α) : cnt sz k (a ++ b) = cnt sz (cnt sz k a) b := by
  induction a generalizing k with
  | nil => rfl
  | cons x r ih => exact ih _
theorem mkL_append (k : Nat) (a b : List α) : mkL sz mk k (a ++ b) = mkL sz mk k a ++ mkL sz mk (cnt sz k a) b := by
  induction a generalizing k with
  | nil => rfl
  | cons x r ih => simp only [List.cons_append, mkL, cnt, ih]
theorem mkL_length (k : Nat) (l : List α) : (mkL sz mk k l).length = l.length := by
  induction l generalizing k with
  | nil => rfl
  | cons x r ih => simp only [mkL, List.length_cons, ih]
theorem cnt_ge (k : Nat) (l : List α) : k ≤ cnt sz k l := by
  induction l generalizing k with
  | nil => exact Nat.le_refl _
  | cons x r ih => have := ih (k + sz x); simp only [cnt]; omega
theorem cnt_len (hs : ∀ x, 1 ≤ sz x) (k : Nat) (l : List α) : k + l.length ≤ cnt sz k l := by
  induction l generalizing k with
  | nil => exact Nat.le_refl _
  | cons x r ih => have := ih (k + sz x); have := hs x; simp only [cnt, List.length_cons]; omega
theorem take_split (l : List α) (j : Nat) (h : j < l.length) : l.take (j + 1) = l.take j ++ [l[j]] := by simp
theorem cnt_succ (k : Nat) (l : List α) (j : Nat) (h : j < l.length) : cnt sz k (l.take (j + 1)) = cnt sz k (l.take j) + sz l[j] := by
  rw [take_split l j h, cnt_append]; rfl
theorem cnt_le (k : Nat) (l : List α) (j : Nat) (h : j < l.length) : cnt sz k (l.take j) + sz l[j] ≤ cnt sz k l := by
  rw [← cnt_succ k l j h]
  conv => rhs; rw [← List.take_append_drop (j + 1) l, cnt_append]
  exact cnt_ge _ _
theorem cnt_all (k : Nat) (l : List α) : cnt sz k (l.take l.length) = cnt sz k l := by rw [List.take_length]
/-- The first j members are marked already. -/
def mkd (sz : α → Nat) (mk : Nat → α → α) (k j : Nat) (l : List α) : List α := mkL sz mk k (l.take j) ++ l.drop j
theorem mkd_length (k j : Nat) (l : List α) : (mkd sz mk k j l).length = l.length := by
  rw [mkd, List.length_append, mkL_length, List.length_take, List.length_drop]; omega
theorem mkd_zero (k : Nat) (l : List α) : mkd sz mk k 0 l = l := by simp [mkd, mkL]
theorem mkd_all (k : Nat) (l : List α) : mkd sz mk k l.length l = mkL sz mk k l := by simp [mkd]
theorem mkd_at (k j : Nat) (l : List α) (h : j < l.length) (h' : j < (mkd sz mk k j l).length) : (mkd sz mk k j l)[j] = l[j] := by
  have e : (mkL sz mk k (l.take j)).length = j := by rw [mkL_length, List.length_take]; omega
  simp only [mkd]
  rw [List.getElem_append_right (by omega)]
  simp [e]
theorem mkd_set (k j : Nat) (l : List α) (h : j < l.length) : (mkd sz mk k j l).set j (mk (cnt sz k (l.take j)) l[j]) = mkd sz mk k (j + 1) l := by
  have e : (mkL sz mk k (l.take j)).length = j := by rw [mkL_length, List.length_take]; omega
  simp only [mkd]
  rw [take_split l j h, mkL_append, List.set_append_right _ _ (by omega), e, List.drop_eq_getElem_cons h]
  simp only [Nat.sub_self, List.set_cons_zero, mkL, List.append_assoc, List.cons_append, List.nil_append]
theorem mkL_at (k j : Nat) (l : List α) (h : j < l.length) (h' : j < (mkL sz mk k l).length) : (mkL sz mk k l)[j] = mk (cnt sz k (l.take j)) l[j] := by
  have e : (mkL sz mk k (l.take j)).length = j := by rw [mkL_length, List.length_take]; omega
  have s : mkL sz mk k l = mkL sz mk k (l.take j) ++ mk (cnt sz k (l.take j)) l[j] :: mkL sz mk (cnt sz k (l.take j) + sz l[j]) (l.drop (j + 1)) := by
    conv => lhs; rw [← List.take_append_drop j l, mkL_append, List.drop_eq_getElem_cons h]
    rfl
  have key : ∀ m : List α, mkL sz mk k l = m → ∀ q : j < m.length, (mkL sz mk k l)[j] = m[j] := by rintro m rfl q; rfl
  rw [key _ s (by rw [← s]; exact h')]
  rw [List.getElem_append_right (by omega)]
  simp [e]
end
theorem TOwns.set01 {w : World} {g cap : Nat} {e : TypeId} {l : List V3} (h : TOwns w e (.slice (some ⟨g, 0, none⟩) l.length cap) l) (k : Nat) (hk : k < l.length) (x y : Value) :
    TOwns ((w.setCell ⟨g, k * 3, none⟩ x).setCell ⟨g, k * 3 + 1, none⟩ y) e (.slice (some ⟨g, 0, none⟩) l.length cap) (l.set k (x, y, l[k].2.2)) := by
  have h1 := h.set0 k hk x
  have h2 : TOwns (w.setCell ⟨g, k * 3, none⟩ x) e (.slice (some ⟨g, 0, none⟩) (l.set k (x, l[k].2.1, l[k].2.2)).length cap) (l.set k (x, l[k].2.1, l[k].2.2)) := by rw [List.length_set]; exact h1
  have h3 := h2.set1 k (by simpa using hk) y
  simp only [List.length_set, List.getElem_set_self, List.set_set] at h3
  exact h3
theorem GO.len_of {α : Type} {K : Kd α} {w : World} {S : Nat → Prop} {v : Value} {ts : List V3} {xs : List α} (h : GO K w S v ts xs) {a : Option Addr} {n cap : Nat} (hv : v = .slice a n cap) : n = ts.length := by
  obtain ⟨a', c, e, _⟩ := h.row.form
  rw [hv] at e
  simp only [Value.slice.injEq] at e
  exact e.2.1
/-- One inode is marked: two cells are stored, and its list is turned. -/
theorem GO.markI {w w1 : World} {S : Nat → Prop} {v : Value} {ts : List V3} {xs : List Ino} (h : GO KI w S v ts xs) {g n cap : Nat} (hv : v = .slice (some ⟨g, 0, none⟩) n cap) (j : Nat) (hj : j < ts.length) (a b : Int) (l' : List Int)
    (hr : ROwns w1 0 3 ts[j].2.2 (ic l')) (hg : ((w.setCell ⟨g, j * 3, none⟩ (.int .i64 a)).setCell ⟨g, j * 3 + 1, none⟩ (.int .i64 b)).grownBy w1 ts[j].2.2.ownBlock) :
    GO KI w1 S v (ts.set j (.int .i64 a, .int .i64 b, ts[j].2.2)) (xs.set j (a, b, l')) ∧ Chg S w w1 := by
  have hlen := h.len_of hv
  subst hlen
  have ho := h.out j hj
  have hgw : g < w.heap.size := h.row.lt g (by rw [hv]; rfl)
  have hoth : ∀ k, k ≠ g → ((w.setCell ⟨g, j * 3, none⟩ (.int .i64 a)).setCell ⟨g, j * 3 + 1, none⟩ (.int .i64 b)).heap[k]? = w.heap[k]? := fun k hk =>
    (heap_setCell_other _ ⟨g, j * 3 + 1, none⟩ k _ (by simpa using hk)).trans (heap_setCell_other _ ⟨g, j * 3, none⟩ k _ (by simpa using hk))
  have hsz : ((w.setCell ⟨g, j * 3, none⟩ (.int .i64 a)).setCell ⟨g, j * 3 + 1, none⟩ (.int .i64 b)).heap.size = w.heap.size := by simp
  have hvg : v.ownBlock = some g := by rw [hv]; rfl
  have hrow := (hv ▸ h.row : TOwns w KI.T (.slice (some ⟨g, 0, none⟩) ts.length cap) ts).set01 j hj (.int .i64 a) (.int .i64 b)
  have hf : ∀ k, k < w.heap.size → v.ownBlock ≠ some k → (KI.p ts[j]).ownBlock ≠ some k → w1.heap[k]? = w.heap[k]? := fun k hk h1 h2 =>
    (hg.block k (by rw [hsz]; exact hk) (fun e => h2 (by rw [show (KI.p ts[j]) = ts[j].2.2 from rfl, ← e]))).trans (hoth k (fun e => h1 (by rw [e, hvg])))
  refine ⟨h.turn j hj _ _ ?_ ⟨rfl, rfl, hr⟩ hf (fun k hk => .inl hk) (fun _ h => h) (fun k hk => h.si j hj k hk), ⟨by rw [hg.os]; rfl, by rw [hg.tape]; rfl, by rw [hg.output]; rfl, by have := hg.size; rw [hsz] at this; exact this, fun k hk hn => hf k hk (fun e => hn (h.so k e)) (fun e => hn (h.si j hj k e))⟩⟩
  rw [hv]
  exact hrow.of_heap fun k hk => by
    have e : k = g := by simpa [Value.ownBlock] using hk.symm
    subst e
    exact hg.block k (by rw [hsz]; exact hgw) (fun e => ho k (by rw [show (KI.p ts[j]) = ts[j].2.2 from rfl, ← e]) hvg)
/-- One block is marked: a cell is stored, its slots are turned, a text is made and stored. -/
theorem GO.markB {w w1 w2 : World} {S : Nat → Prop} {v : Value} {ts : List V3} {xs : List Blk} (h : GO KB w S v ts xs) {g n cap : Nat} (hv : v = .slice (some ⟨g, 0, none⟩) n cap) (j : Nat) (hj : j < ts.length) (a : Bool) (t : ByteArray) (l' : List Sl)
    (hr : SOwns w1 0 100 ts[j].2.1 l') (hg : (w.setCell ⟨g, j * 3, none⟩ (.bool a)).grownBy w1 ts[j].2.1.ownBlock) (hb : Below w1.heap.size w1 w2) :
    GO KB (w2.setCell ⟨g, j * 3 + 2, none⟩ (.string t)) S v (ts.set j (.bool a, ts[j].2.1, .string t)) (xs.set j (a, l', t)) ∧ Chg S w (w2.setCell ⟨g, j * 3 + 2, none⟩ (.string t)) := by
  have hlen := h.len_of hv
  subst hlen
  have ho := h.out j hj
  have hgw : g < w.heap.size := h.row.lt g (by rw [hv]; rfl)
  have hsz : (w.setCell ⟨g, j * 3, none⟩ (.bool a)).heap.size = w.heap.size := by simp
  have hsz1 : w.heap.size ≤ w1.heap.size := by have := hg.size; rw [hsz] at this; exact this
  have hvg : v.ownBlock = some g := by rw [hv]; rfl
  have hin : ∀ k, ts[j].2.1.ownBlock = some k → k ≠ g := fun k hk e => ho k hk (by rw [e, hvg])
  have hrow := (hv ▸ h.row : TOwns w KB.T (.slice (some ⟨g, 0, none⟩) ts.length cap) ts).set0 j hj (.bool a)
  have hrow2 : TOwns w2 KB.T (.slice (some ⟨g, 0, none⟩) ts.length cap) (ts.set j (.bool a, ts[j].2.1, ts[j].2.2)) := hrow.of_heap fun k hk => by
    have e : k = g := by simpa [Value.ownBlock] using hk.symm
    subst e
    exact (hb.block k (by omega)).trans (hg.block k (by rw [hsz]; exact hgw) (fun e => hin k e.symm rfl))
  have hrow3 : TOwns w2 KB.T (.slice (some ⟨g, 0, none⟩) (ts.set j (.bool a, ts[j].2.1, ts[j].2.2)).length cap) (ts.set j (.bool a, ts[j].2.1, ts[j].2.2)) := by rw [List.length_set]; exact hrow2
  have hrow4 := hrow3.set2 j (by simpa using hj) (.string t)
  simp only [List.length_set, List.getElem_set_self, List.set_set] at hrow4
  have hf : ∀ k, k < w.heap.size → v.ownBlock ≠ some k → (KB.p ts[j]).ownBlock ≠ some k → (w2.setCell ⟨g, j * 3 + 2, none⟩ (.string t)).heap[k]? = w.heap[k]? := fun k hk h1 h2 =>
    have hne : k ≠ g := fun e => h1 (by rw [e, hvg])
    ((heap_setCell_other w2 ⟨g, j * 3 + 2, none⟩ k _ (by simpa using hne)).trans (hb.block k (by omega))).trans ((hg.block k (by rw [hsz]; exact hk) (fun e => h2 (by rw [show (KB.p ts[j]) = ts[j].2.1 from rfl, ← e]))).trans (heap_setCell_other w ⟨g, j * 3, none⟩ k _ (by simpa using hne)))
  have hr2 : SOwns (w2.setCell ⟨g, j * 3 + 2, none⟩ (.string t)) 0 100 ts[j].2.1 l' := (hr.below hb (Nat.le_refl _)).setCell_other (fun e => hin g e rfl) _
  refine ⟨h.turn j hj _ _ ?_ ⟨rfl, hr2, rfl⟩ hf (fun k hk => .inl hk) (fun _ h => h) (fun k hk => h.si j hj k hk), ⟨by show w2.os = w.os; rw [hb.os, hg.os]; rfl, by show w2.tape = w.tape; rw [hb.tape, hg.tape]; rfl, by show w2.output = w.output; rw [hb.output, hg.output]; rfl, by have := hb.size; simp; omega, fun k hk hn => hf k hk (fun e => hn (h.so k e)) (fun e => hn (h.si j hj k e))⟩⟩
  rw [hv]
  exact hrow4
end Go.Proofs.Ytljooldjcefkoaa.Kit
/- laws.eqNode, eqNodeS, markNodeS, heldNodeS by their contracts. -/
namespace Go.Proofs.Ytljooldjcefkoaa
open Go.RowKit Kit
/-- The slice value v reads as the nodes ns. -/
def RNd (w : World) (v : Value) (ns : List Nd) : Prop := ∃ a cap, v = .slice a ns.length cap ∧ ∀ (j : Nat) (h : j < ns.length), ∃ g off, a = some ⟨g, off, none⟩ ∧ g < w.heap.size ∧ w.cell? ⟨g, off + j * 4, none⟩ = some (.string ns[j].1) ∧ w.cell? ⟨g, off + j * 4 + 1, none⟩ = some (.bool ns[j].2.1) ∧ w.cell? ⟨g, off + j * 4 + 2, none⟩ = some (.string ns[j].2.2.1) ∧ w.cell? ⟨g, off + j * 4 + 3, none⟩ = some (.string ns[j].2.2.2)
theorem NdO.rnd {w : World} {B : Nat} {v : Value} {ns : List Nd} (h : NdO w B v ns) : RNd w v ns := by
  obtain ⟨a, cap, e⟩ := h.form
  refine ⟨a, cap, e, fun j hj => ?_⟩
  obtain ⟨g, c, e1, c0, c1, c2, c3, -, hg, -⟩ := h.at_ j hj
  rw [e] at e1
  simp only [Value.slice.injEq] at e1
  exact ⟨g, 0, e1.1, hg, by rw [Nat.zero_add]; exact c0, by rw [Nat.zero_add]; exact c1, by rw [Nat.zero_add]; exact c2, by rw [Nat.zero_add]; exact c3⟩
set_option maxRecDepth 100000 in
set_option maxHeartbeats 800000 in
theorem eqNode_same (x0 : ByteArray) (x1 : Bool) (x2 x3 : ByteArray) (w : World) :
    Calls Try.prog 27 #[.agg #[.string x0, .bool x1, .string x2, .string x3], .agg #[.string x0, .bool x1, .string x2, .string x3]] w fun e w' => e = .returned (.bool true) ∧ Below w.heap.size w w' := by
  go_enter Try.func27, Try.ntmps27
  go_wp2
  go_ret
  refine ⟨rfl, ?_⟩
  go_grown
set_option maxRecDepth 100000 in
set_option maxHeartbeats 800000 in
theorem eqNodeS_same (va vb : Value) (l : List Nd) (w : World) (ha : RNd w va l) (hb : RNd w vb l) (hl : l.length ≤ 1000000000) :
    Calls Try.prog 8 #[va, vb] w fun e w' => e = .returned (.bool true) ∧ Below w.heap.size w w' := by
  obtain ⟨a1, c1, rfl, ha⟩ := ha
  obtain ⟨a2, c2, rfl, hb⟩ := hb
  have HA := hide ha
  have HB := hide hb
  clear ha hb
  go_enter Try.func8, Try.ntmps8
  go_wp2
  go_loopw [5] (fun i wr => ∃ j : Nat, j ≤ l.length ∧ i = .int .i64 j ∧ Below w.heap.size w wr) (fun i _ => l.length - (intOf i).toNat)
  case atStart => exact ⟨0, Nat.zero_le _, rfl, Below.refl _ _⟩
  case round =>
    obtain ⟨j, hj, rfl, hb⟩ := hrel
    have hsz := hb.size
    by_cases hlt : j < l.length
    · obtain ⟨g1, o1, rfl, hg1, m0, m1, m2, m3⟩ := HA.out j hlt
      obtain ⟨g2, o2, rfl, hg2, n0, n1, n2, n3⟩ := HB.out j hlt
      obtain ⟨⟨x0, x1, x2, x3⟩, hx⟩ : ∃ x, l[j] = x := ⟨_, rfl⟩
      rw [hx] at m0 m1 m2 m3 n0 n1 n2 n3
      have HK : Hid (∀ w1, Below w.heap.size w w1 → w1.cell? ⟨g1, o1 + j * 4, none⟩ = some (.string x0) ∧ w1.cell? ⟨g1, o1 + j * 4 + 1, none⟩ = some (.bool x1) ∧ w1.cell? ⟨g1, o1 + j * 4 + 2, none⟩ = some (.string x2) ∧ w1.cell? ⟨g1, o1 + j * 4 + 3, none⟩ = some (.string x3) ∧ w1.cell? ⟨g2, o2 + j * 4, none⟩ = some (.string x0) ∧ w1.cell? ⟨g2, o2 + j * 4 + 1, none⟩ = some (.bool x1) ∧ w1.cell? ⟨g2, o2 + j * 4 + 2, none⟩ = some (.string x2) ∧ w1.cell? ⟨g2, o2 + j * 4 + 3, none⟩ = some (.string x3)) := fun w1 b =>
        ⟨(b.cell (p := ⟨g1, o1 + j * 4, none⟩) hg1).trans m0, (b.cell (p := ⟨g1, o1 + j * 4 + 1, none⟩) hg1).trans m1, (b.cell (p := ⟨g1, o1 + j * 4 + 2, none⟩) hg1).trans m2, (b.cell (p := ⟨g1, o1 + j * 4 + 3, none⟩) hg1).trans m3, (b.cell (p := ⟨g2, o2 + j * 4, none⟩) hg2).trans n0, (b.cell (p := ⟨g2, o2 + j * 4 + 1, none⟩) hg2).trans n1, (b.cell (p := ⟨g2, o2 + j * 4 + 2, none⟩) hg2).trans n2, (b.cell (p := ⟨g2, o2 + j * 4 + 3, none⟩) hg2).trans n3⟩
      obtain ⟨k0, k1, k2, k3, p0, p1, p2, p3⟩ := HK.out wr hb
      have BB := hb.drew
      have j0 : (0 : Int) ≤ (j : Int) := by omega
      have j1 : (j : Int) < (l.length : Int) := by omega
      clear m0 m1 m2 m3 n0 n1 n2 n3 hx hb
      go_wp2
      go_region_held3 (fun w' => w'.cell? ⟨g1, o1 + j * 4, none⟩ = some (.string x0) ∧ w'.cell? ⟨g1, o1 + j * 4 + 1, none⟩ = some (.bool x1) ∧ w'.cell? ⟨g1, o1 + j * 4 + 2, none⟩ = some (.string x2) ∧ w'.cell? ⟨g1, o1 + j * 4 + 3, none⟩ = some (.string x3) ∧ w'.cell? ⟨g2, o2 + j * 4, none⟩ = some (.string x0) ∧ w'.cell? ⟨g2, o2 + j * 4 + 1, none⟩ = some (.bool x1) ∧ w'.cell? ⟨g2, o2 + j * 4 + 2, none⟩ = some (.string x2) ∧ w'.cell? ⟨g2, o2 + j * 4 + 3, none⟩ = some (.string x3)) (exact HK.out _ BB) ((go_at_call 27; refine (eqNode_same x0 x1 x2 x3 _).mono ?_; rintro e w3 ⟨rfl, B3⟩; replace BB := BB.trans (B3.mono BB.size)))
      have HBB := hide BB
      clear BB B3 k0 k1 k2 k3 p0 p1 p2 p3
      go_wp2
      go_roundw
      case rel => exact ⟨j + 1, by omega, by go_num, HBB.out⟩
      case measure => simp [intOf]; omega
    · go_wp2
      go_ret
      exact ⟨rfl, hb⟩
/-- The marks of one node, from k on. -/
def mkNd (k : Nat) : Nd := (mkT k, decide ((k + 1) % 3 = 0), mkT (k + 2), mkT (k + 3))
/-- The marks of n nodes. -/
def mksN (k n : Nat) : List Nd := (List.range n).map fun j => mkNd (k + 4 * j)
theorem mksN_length (k n : Nat) : (mksN k n).length = n := by simp [mksN]
def mkdN (k j : Nat) (l : List Nd) : List Nd := mksN k j ++ l.drop j
theorem mkdN_length (k j : Nat) (l : List Nd) (h : j ≤ l.length) : (mkdN k j l).length = l.length := by simp [mkdN, mksN_length]; omega
theorem mkdN_set (k j : Nat) (l : List Nd) (h : j < l.length) : (mkdN k j l).set j (mkNd (k + 4 * j)) = mkdN k (j + 1) l := by
  unfold mkdN
  rw [List.set_append_right _ _ (by rw [mksN_length]; omega), mksN_length, Nat.sub_self, List.drop_eq_getElem_cons h, List.set_cons_zero]
  simp [mksN, List.range_succ]
theorem mkdN_all (k : Nat) (l : List Nd) : mkdN k l.length l = mksN k l.length := by simp [mkdN]
theorem row_set (rows : List Row) (j : Nat) (hj : j < rows.length) (h4 : rows[j].length = 4) (a b c d : Value) : (((rows.set j (rows[j].set 0 a)).set j ((rows[j].set 0 a).set 1 b)).set j (((rows[j].set 0 a).set 1 b).set 2 c)).set j ((((rows[j].set 0 a).set 1 b).set 2 c).set 3 d) = rows.set j [a, b, c, d] := by
  rw [List.set_set, List.set_set, List.set_set]
  congr 1
  match rows[j], h4 with
  | [_, _, _, _], _ => rfl
/-- The row at j holds these four. -/
structure RwF (w wr : World) (B g cap n j : Nat) (l : List Nd) (a : ByteArray) (b : Bool) (c d : ByteArray) : Prop where
  o : NdO wr B (.slice (some ⟨g, 0, none⟩) n cap) (l.set j (a, b, c, d))
  l : l.length = n
  hj : j < n
  g : w.grownBy wr (some g)
theorem RwF.cells {w wr : World} {B g cap n j : Nat} {l : List Nd} {a : ByteArray} {b : Bool} {c d : ByteArray} (h : RwF w wr B g cap n j l a b c d) : wr.cell? ⟨g, j * 4, none⟩ = some (.string a) ∧ wr.cell? ⟨g, j * 4 + 1, none⟩ = some (.bool b) ∧ wr.cell? ⟨g, j * 4 + 2, none⟩ = some (.string c) ∧ wr.cell? ⟨g, j * 4 + 3, none⟩ = some (.string d) ∧ (∀ k, wr.frozen? ⟨g, k, none⟩ = false) ∧ g < wr.heap.size := by
  obtain ⟨g', cap', e, h0, h1, h2, h3, hf, hg, -⟩ := h.o.at_ j (by rw [List.length_set, h.l]; exact h.hj)
  simp only [Value.slice.injEq, Option.some.injEq, Addr.mk.injEq, and_true] at e
  obtain ⟨rfl, -⟩ := e
  rw [List.getElem_set_self] at h0 h1 h2 h3
  exact ⟨h0, h1, h2, h3, hf, hg⟩
theorem RwF.below {w wr wr' : World} {B g cap n j : Nat} {l : List Nd} {a : ByteArray} {b : Bool} {c d : ByteArray} (h : RwF w wr B g cap n j l a b c d) (hb : Below wr.heap.size wr wr') : RwF w wr' B g cap n j l a b c d := ⟨h.o.below hb, h.l, h.hj, grownBy_trans h.g (grownBy_below hb _)⟩
theorem RwF.put {w wr : World} {B g cap n j : Nat} {l : List Nd} {a : ByteArray} {b : Bool} {c d : ByteArray} (h : RwF w wr B g cap n j l a b c d) (i : Nat) (u : Value) (y : Nd) (hy : (ndRow (a, b, c, d)).set i u = ndRow y) (hi : i < 4) : NdO (wr.setCell ⟨g, j * 4 + i, none⟩ u) B (.slice (some ⟨g, 0, none⟩) n cap) (l.set j y) ∧ w.grownBy (wr.setCell ⟨g, j * 4 + i, none⟩ u) (some g) := by
  have hl : ((l.set j (a, b, c, d)).map ndRow).length = n := by rw [List.length_map, List.length_set, h.l]
  have o := h.o.1
  rw [← hl] at o
  have h2 := o.set j i (by rw [hl]; exact h.hj) hi u
  simp only [List.getElem_map, List.getElem_set_self] at h2
  rw [hy, hl, List.map_set, List.set_set, ← List.map_set] at h2
  refine ⟨⟨h2, h.o.2⟩, grownBy_trans h.g ⟨rfl, rfl, rfl, by simp, fun k hk hne => heap_setCell_other wr ⟨g, j * 4 + i, none⟩ k u (fun e => hne (by rw [show k = g from e]))⟩⟩
set_option maxRecDepth 100000 in
set_option maxHeartbeats 3200000 in
theorem markNodeS_any (v : Value) (l : List Nd) (B k : Nat) (w : World) (h : NdO w B v l) (hk : 1 ≤ k) (hk1 : k ≤ 1000) (hl : l.length ≤ 1000000) :
    Calls Try.prog 11 #[v, .int .i64 k] w fun e w' => e = .returned (.int .i64 (k + 4 * l.length : Nat)) ∧ NdO w' B v (mksN k l.length) ∧ w.grownBy w' v.ownBlock := by
  obtain ⟨a1, c1, rfl⟩ := h.form
  have HA := hide h
  clear h
  go_enter Try.func11, Try.ntmps11
  go_wp2
  go_loopw [1, 5] (fun x i wr => ∃ j : Nat, j ≤ l.length ∧ i = .int .i64 j ∧ x = .int .i64 (k + 4 * j : Nat) ∧ Hid (NdO wr B (.slice a1 l.length c1) (mkdN k j l) ∧ w.grownBy wr (Value.slice a1 l.length c1).ownBlock)) (fun _ i _ => l.length - (intOf i).toNat)
  case atStart => exact ⟨0, Nat.zero_le _, rfl, rfl, by rw [mkdN]; simpa [mksN] using HA.out, grownBy_below (Below.refl _ _) _⟩
  case round =>
    obtain ⟨j, hj, rfl, rfl, HS⟩ := hrel
    have j0 : (0 : Int) ≤ (j : Int) := by omega
    by_cases hlt : j < l.length
    · have j1 : (j : Int) < (l.length : Int) := by omega
      have hml := mkdN_length k j l hj
      obtain ⟨g, cap, e, -, -, -, -, -, -, hBg⟩ := HS.out.1.at_ j (by rw [hml]; exact hlt)
      rw [hml] at e
      simp only [Value.slice.injEq, true_and] at e
      obtain ⟨rfl, rfl⟩ := e
      obtain ⟨⟨x0, x1, x2, x3⟩, hx⟩ : ∃ x, (mkdN k j l)[j]'(by rw [hml]; exact hlt) = x := ⟨_, rfl⟩
      have HF : Hid (RwF w wr B g c1 l.length j (mkdN k j l) x0 x1 x2 x3) := by
        refine ⟨?_, hml, hlt, HS.out.2⟩
        have := HS.out.1
        rw [← hx, List.set_getElem_self]
        exact this
      obtain ⟨K, hK⟩ : ∃ K : Nat, k + 4 * j = K := ⟨_, rfl⟩
      have HKK := hide hK
      have hKb : K ≤ 4001000 := by omega
      have hK1 : 1 ≤ K := by omega
      have tn0 : ((K : Int)).toNat = K := by omega
      have HST := hide (mkdN_set k j l hlt)
      rw [hK] at HST ⊢
      clear hx HS hml hK
      go_wp2_with fail
      refine (markText_any K _ (by omega) (by omega)).mono ?_
      rintro e w1 ⟨rfl, B1⟩
      have H1 := HF.out.below B1
      obtain ⟨q0, q1, q2, q3, qf, qg⟩ := H1.cells
      obtain ⟨N1, G1⟩ := H1.put 0 (.string (mkT K)) (mkT K, x1, x2, x3) rfl (by decide)
      have HF1 : Hid (RwF w (w1.setCell ⟨g, j * 4, none⟩ (.string (mkT K))) B g c1 l.length j (mkdN k j l) (mkT K) x1 x2 x3) := ⟨N1, H1.l, H1.hj, G1⟩
      have f0 := qf (j * 4)
      clear B1 H1 N1 G1 q1 q2 q3 qf HF
      obtain ⟨W1, hW1⟩ : ∃ W, w1.setCell ⟨g, j * 4, none⟩ (.string (mkT K)) = W := ⟨_, rfl⟩
      rw [hW1] at HF1
      obtain ⟨-, r1, -, -, rf, rg⟩ := HF1.out.cells
      have f1 := rf (j * 4 + 1)
      have hm3 : ((K : Int) + 1) % 3 = (((K + 1) % 3 : Nat) : Int) := by omega
      obtain ⟨b3, hb3⟩ : ∃ b, decide ((K + 1) % 3 = 0) = b := ⟨_, rfl⟩
      have hb4 : (((K : Int) + 1) % 3 == 0) = b3 := by
        rw [← hb3, hm3, Bool.eq_iff_iff]
        simp
        omega
      obtain ⟨N2, G2⟩ := HF1.out.put 1 (.bool b3) (mkT K, b3, x2, x3) rfl (by decide)
      have HF2 : Hid (RwF w (W1.setCell ⟨g, j * 4 + 1, none⟩ (.bool b3)) B g c1 l.length j (mkdN k j l) (mkT K) b3 x2 x3) := ⟨N2, HF1.out.l, HF1.out.hj, G2⟩
      have HB3 := hide hb3
      clear N2 G2 rf HF1 hm3 hb3
      obtain ⟨W2, hW2⟩ : ∃ W, W1.setCell ⟨g, j * 4 + 1, none⟩ (.bool b3) = W := ⟨_, rfl⟩
      rw [hW2] at HF2
      go_wp2_with fail
      refine (markText_any (K + 2) _ (by omega) (by omega)).mono ?_
      rintro e w3 ⟨rfl, B3⟩
      have H3 := HF2.out.below B3
      obtain ⟨-, -, s2, -, sf, sg⟩ := H3.cells
      obtain ⟨N3, G3⟩ := H3.put 2 (.string (mkT (K + 2))) (mkT K, b3, mkT (K + 2), x3) rfl (by decide)
      have HF3 : Hid (RwF w (w3.setCell ⟨g, j * 4 + 2, none⟩ (.string (mkT (K + 2)))) B g c1 l.length j (mkdN k j l) (mkT K) b3 (mkT (K + 2)) x3) := ⟨N3, H3.l, H3.hj, G3⟩
      have f2 := sf (j * 4 + 2)
      clear B3 H3 N3 G3 sf HF2 hW1 hW2 r1 f0 f1 q0
      obtain ⟨W3, hW3⟩ : ∃ W, w3.setCell ⟨g, j * 4 + 2, none⟩ (.string (mkT (K + 2))) = W := ⟨_, rfl⟩
      rw [hW3] at HF3
      go_wp2_with fail
      refine (markText_any (K + 3) _ (by omega) (by omega)).mono ?_
      rintro e w4 ⟨rfl, B4⟩
      have H4 := HF3.out.below B4
      obtain ⟨-, -, -, u3, uf, ug⟩ := H4.cells
      obtain ⟨N4, G4⟩ := H4.put 3 (.string (mkT (K + 3))) (mkT K, b3, mkT (K + 2), mkT (K + 3)) rfl (by decide)
      have f3 := uf (j * 4 + 3)
      have HF4 : Hid (NdO (w4.setCell ⟨g, j * 4 + 3, none⟩ (.string (mkT (K + 3)))) B (.slice (some ⟨g, 0, none⟩) l.length c1) (mkdN k (j + 1) l) ∧ w.grownBy (w4.setCell ⟨g, j * 4 + 3, none⟩ (.string (mkT (K + 3)))) (some g)) := by
        refine ⟨?_, G4⟩
        rw [← HST.out]
        have e : mkNd K = (mkT K, b3, mkT (K + 2), mkT (K + 3)) := by unfold mkNd; rw [HB3.out]
        rw [e]
        exact N4
      clear B4 H4 N4 G4 uf HF3 hW3 s2 f2
      go_wp2
      go_roundw
      case rel => exact ⟨j + 1, by omega, by go_num, by rw [← HKK.out]; go_num, HF4.out⟩
      case measure => simp [intOf]; omega
    · have j1 : ¬ ((j : Int) < (l.length : Int)) := by omega
      have hje : j = l.length := by omega
      have HR : Hid (NdO wr B (.slice a1 l.length c1) (mksN k l.length) ∧ w.grownBy wr (Value.slice a1 l.length c1).ownBlock) := by
        have := HS.out
        rw [hje, mkdN_all] at this
        exact this
      have HJ := hide hje
      clear HS hje
      go_wp2
      go_ret
      exact ⟨by rw [HJ.out]; rfl, HR.out.1, HR.out.2⟩
theorem mksN_get (k n j : Nat) (h : j < n) : (mksN k n)[j]'(by rw [mksN_length]; exact h) = mkNd (k + 4 * j) := by simp [mksN]
set_option maxRecDepth 100000 in
set_option maxHeartbeats 3200000 in
theorem heldNodeS_any (v : Value) (n B k : Nat) (w : World) (h : NdO w B v (mksN k n)) (hk : 1 ≤ k) (hk1 : k ≤ 1000) (hl : n ≤ 1000000) :
    Calls Try.prog 12 #[v, .int .i64 k] w fun e w' => e = .returned (.int .i64 (k + 4 * n : Nat)) ∧ Below w.heap.size w w' := by
  obtain ⟨a1, c1, e1, hc⟩ := NdO.rnd h
  rw [mksN_length] at e1
  subst e1
  have HC := hide hc
  clear h hc
  go_enter Try.func12, Try.ntmps12
  go_wp2
  go_loopw [1, 5] (fun x i wr => ∃ j : Nat, j ≤ n ∧ i = .int .i64 j ∧ x = .int .i64 (k + 4 * j : Nat) ∧ Below w.heap.size w wr) (fun _ i _ => n - (intOf i).toNat)
  case atStart => exact ⟨0, Nat.zero_le _, rfl, rfl, Below.refl _ _⟩
  case round =>
    obtain ⟨j, hj, rfl, rfl, hb⟩ := hrel
    have hsz := hb.size
    have j0 : (0 : Int) ≤ (j : Int) := by omega
    by_cases hlt : j < n
    · have j1 : (j : Int) < (n : Int) := by omega
      obtain ⟨g, o, rfl, hg, m0, m1, m2, m3⟩ := HC.out j (by rw [mksN_length]; exact hlt)
      rw [mksN_get k n j hlt] at m0 m1 m2 m3
      obtain ⟨K, hK⟩ : ∃ K : Nat, k + 4 * j = K := ⟨_, rfl⟩
      have HKK := hide hK
      have hKb : K ≤ 4001000 := by omega
      have hK1 : 1 ≤ K := by omega
      rw [hK] at m0 m1 m2 m3 ⊢
      simp only [mkNd] at m0 m1 m2 m3
      obtain ⟨b3, hb3⟩ : ∃ b, decide ((K + 1) % 3 = 0) = b := ⟨_, rfl⟩
      have hb4 : (((K : Int) + 1) % 3 == 0) = b3 := by
        rw [← hb3, show ((K : Int) + 1) % 3 = (((K + 1) % 3 : Nat) : Int) by omega, Bool.eq_iff_iff]
        simp
        omega
      rw [hb3] at m1
      have HK4 : Hid (∀ w1, Below w.heap.size w w1 → w1.cell? ⟨g, o + j * 4, none⟩ = some (.string (mkT K)) ∧ w1.cell? ⟨g, o + j * 4 + 1, none⟩ = some (.bool b3) ∧ w1.cell? ⟨g, o + j * 4 + 2, none⟩ = some (.string (mkT (K + 2))) ∧ w1.cell? ⟨g, o + j * 4 + 3, none⟩ = some (.string (mkT (K + 3)))) := fun w1 b =>
        ⟨(b.cell (p := ⟨g, o + j * 4, none⟩) hg).trans m0, (b.cell (p := ⟨g, o + j * 4 + 1, none⟩) hg).trans m1, (b.cell (p := ⟨g, o + j * 4 + 2, none⟩) hg).trans m2, (b.cell (p := ⟨g, o + j * 4 + 3, none⟩) hg).trans m3⟩
      have HBB0 := hide hb
      obtain ⟨k0, k1, k2, k3⟩ := HK4.out wr hb
      have BB := hb.drew
      clear m0 m1 m2 m3 hb hK hb3
      go_wp2
      go_region_held3 (fun w' => w'.cell? ⟨g, o + j * 4, none⟩ = some (.string (mkT K))) (exact (HK4.out _ BB).1) ((go_at_call 34; refine (markText_any K _ (by omega) (by omega)).mono ?_; rintro e w3 ⟨rfl, B3⟩; replace BB := BB.trans (B3.mono BB.size)))
      have HB1 := hide BB
      clear BB B3 k0 k1 k2 k3
      obtain ⟨-, k1, k2, -⟩ := HK4.out _ HB1.out
      have BB := HB1.out.drew
      go_upto_region 10 with fail
      go_region_held3 (fun w' => w'.cell? ⟨g, o + j * 4 + 2, none⟩ = some (.string (mkT (K + 2)))) (exact (HK4.out _ BB).2.2.1) ((go_at_call 34; refine (markText_any (K + 2) _ (by omega) (by omega)).mono ?_; rintro e w4 ⟨rfl, B4⟩; replace BB := BB.trans (B4.mono BB.size)))
      have HB2 := hide BB
      clear BB B4 k1 k2
      obtain ⟨-, -, -, k3⟩ := HK4.out _ HB2.out
      have BB := HB2.out.drew
      go_upto_region 13 with fail
      go_region_held3 (fun w' => w'.cell? ⟨g, o + j * 4 + 3, none⟩ = some (.string (mkT (K + 3)))) (exact (HK4.out _ BB).2.2.2) ((go_at_call 34; refine (markText_any (K + 3) _ (by omega) (by omega)).mono ?_; rintro e w5 ⟨rfl, B5⟩; replace BB := BB.trans (B5.mono BB.size)))
      have HB3 := hide BB
      clear BB B5 k3
      go_wp2
      go_roundw
      case rel => exact ⟨j + 1, by omega, by go_num, by rw [← HKK.out]; go_num, HB3.out⟩
      case measure => simp [intOf]; omega
    · go_wp2
      go_ret
      exact ⟨by rw [show j = n by omega]; rfl, hb⟩
end Go.Proofs.Ytljooldjcefkoaa
/- laws.markInodeS, laws.markBlockS, laws.heldInodeS, laws.heldBlockS by their contracts. -/
namespace Go.Proofs.Ytljooldjcefkoaa
open Go.RowKit Kit
/-- How many marks an inode, a block takes, and each of them marked. -/
def szI (x : Ino) : Nat := 2 + x.2.2.length
def mkI (k : Nat) (x : Ino) : Ino := ((k : Int), ((k + 1 : Nat) : Int), marksI (k + 2) x.2.2.length)
def szB (b : Blk) : Nat := 2 + b.2.1.length * 2
def mkB (k : Nat) (b : Blk) : Blk := (mk3 k, mkS (k + 1) b.2.1.length, mkT (k + 1 + b.2.1.length * 2))
set_option maxRecDepth 100000 in
set_option maxHeartbeats 1600000 in
theorem markInoS_any (v : Value) (ts : List V3) (xs : List Ino) (S : Nat → Prop) (k : Nat) (w : World) (h : GO KI w S v ts xs) (hk : cnt szI k xs ≤ 100000000000000) :
    Calls Try.prog 32 #[v, .int .i64 k] w fun e w' => ∃ ts', e = .returned (.int .i64 (cnt szI k xs : Nat)) ∧ GO KI w' S v ts' (mkL szI mkI k xs) ∧ Chg S w w' := by
  have hlen : k + xs.length ≤ cnt szI k xs := cnt_len (fun x => by simp [szI]; omega) k xs
  obtain ⟨a1, c1, rfl⟩ := h.form
  have HG := hide h
  have HK := hide hk
  clear h
  go_enter Try.func32, Try.ntmps32
  go_wp2
  go_loopw [1, 5] (fun x i wr => ∃ j : Nat, j ≤ xs.length ∧ i = .int .i64 j ∧ x = .int .i64 (cnt szI k (xs.take j) : Nat) ∧ Hid (∃ ts, GO KI wr S (.slice a1 xs.length c1) ts (mkd szI mkI k j xs)) ∧ Hid (Chg S w wr)) (fun _ i _ => xs.length - (intOf i).toNat)
  case atStart => exact ⟨0, Nat.zero_le _, rfl, rfl, ⟨ts, by rw [mkd_zero]; exact HG.out⟩, Chg.refl _ _⟩
  case round =>
    obtain ⟨j, hj, rfl, rfl, HT, HC⟩ := hrel
    by_cases hlt : j < xs.length
    · obtain ⟨ts2, hts⟩ := HT.out
      have hl2 : ts2.length = xs.length := by rw [hts.len, mkd_length]
      have hj2 : j < ts2.length := by omega
      obtain ⟨g, c2, e1, k1, k2, k3, k4, k5, -⟩ := hts.row.at j hj2
      simp only [Value.slice.injEq] at e1
      obtain ⟨rfl, -, rfl⟩ := e1
      have hin := hts.inn j hj2 (by rw [mkd_length]; exact hlt)
      rw [mkd_at k j xs hlt] at hin
      obtain ⟨i1, i2, i3⟩ := hin
      obtain ⟨p, hp⟩ : ∃ p, ts2[j].2.2 = p := ⟨_, rfl⟩
      obtain ⟨l, hl⟩ : ∃ l, xs[j].2.2 = l := ⟨_, rfl⟩
      rw [i1] at k1
      rw [i2] at k2
      rw [hp] at k3 i3
      rw [hl] at i3
      have hcle := cnt_le (sz := szI) k xs j hlt
      have hcs := cnt_succ (sz := szI) k xs j hlt
      have hset := mkd_set (sz := szI) (mk := mkI) k j xs hlt
      have hszj : szI xs[j] = 2 + l.length := by rw [← hl]; rfl
      rw [hszj] at hcle hcs
      have hmk : ∀ K, mkI K xs[j] = ((K : Int), ((K + 1 : Nat) : Int), marksI (K + 2) l.length) := fun K => by rw [← hl]; rfl
      rw [hmk] at hset
      obtain ⟨K, hK⟩ : ∃ K : Nat, cnt szI k (xs.take j) = K := ⟨_, rfl⟩
      rw [hK] at hcle hcs hset ⊢
      have hK1 : K + (2 + l.length) ≤ 100000000000000 := Nat.le_trans hcle hk
      have HM : Hid (∀ w1, ROwns w1 0 3 p (ic (marksI (K + 2) l.length)) → ((wr.setCell ⟨g, j * 3, none⟩ (.int .i64 (K : Int))).setCell ⟨g, j * 3 + 1, none⟩ (.int .i64 ((K : Int) + 1))).grownBy w1 p.ownBlock → (∃ ts, GO KI w1 S (.slice (some ⟨g, 0, none⟩) xs.length c1) ts (mkd szI mkI k (j + 1) xs)) ∧ Chg S w w1) := fun w1 hr hg => by
        have := hts.markI rfl j hj2 (K : Int) ((K + 1 : Nat) : Int) (marksI (K + 2) l.length) (by rw [hp]; exact hr) (by rw [hp]; exact hg)
        rw [hset] at this
        exact ⟨⟨_, this.1⟩, HC.out.trans this.2⟩
      have HO : Hid (ROwns ((wr.setCell ⟨g, j * 3, none⟩ (.int .i64 (K : Int))).setCell ⟨g, j * 3 + 1, none⟩ (.int .i64 ((K : Int) + 1))) 0 3 p (ic l)) := i3.of_heap fun m hm => by
        have hne : m ≠ g := fun e => hts.out j hj2 m (by rw [show KI.p ts2[j] = ts2[j].2.2 from rfl, hp]; exact hm) (by rw [e]; rfl)
        exact (heap_setCell_other _ ⟨g, j * 3 + 1, none⟩ m _ (by simpa using hne)).trans (heap_setCell_other _ ⟨g, j * 3, none⟩ m _ (by simpa using hne))
      have HCS := hide hcs
      have f0 := k4 (j * 3)
      have f1 := k4 (j * 3 + 1)
      have j0 : (0 : Int) ≤ (j : Int) := by omega
      have j1 : (j : Int) < (xs.length : Int) := by omega
      clear hts HT hp hl hcle hset hszj hmk hK i1 i2 i3 hcs k4 hl2 hj2
      go_wp2_with (go_at_call 60; refine (markI_any p l 0 (K + 2) _ HO.out (by omega) (by omega)).mono ?_; rintro e w1 ⟨rfl, R1, G1⟩; have H1 := hide (HM.out w1 R1 G1); clear R1 G1)
      go_roundw
      case rel => exact ⟨j + 1, by omega, by go_num, by rw [HCS.out]; go_num, H1.out.1, H1.out.2⟩
      case measure => simp [intOf]; omega
    · have hjl : j = xs.length := by omega
      have HJ := hide hjl
      clear hjl
      go_wp2
      go_ret
      obtain ⟨ts2, hts⟩ := HT.out
      rw [HJ.out, mkd_all] at hts
      exact ⟨ts2, by rw [HJ.out, cnt_all]; rfl, hts, HC.out⟩
set_option maxRecDepth 100000 in
set_option maxHeartbeats 1600000 in
theorem markBlkS_any (v : Value) (ts : List V3) (xs : List Blk) (S : Nat → Prop) (k : Nat) (w : World) (h : GO KB w S v ts xs) (hk0 : 1 ≤ k) (hk : cnt szB k xs ≤ 100000000000000) :
    Calls Try.prog 33 #[v, .int .i64 k] w fun e w' => ∃ ts', e = .returned (.int .i64 (cnt szB k xs : Nat)) ∧ GO KB w' S v ts' (mkL szB mkB k xs) ∧ Chg S w w' := by
  have hlen : k + xs.length ≤ cnt szB k xs := cnt_len (fun x => by simp [szB]; omega) k xs
  obtain ⟨a1, c1, rfl⟩ := h.form
  have HG := hide h
  have HK := hide hk
  clear h
  go_enter Try.func33, Try.ntmps33
  go_wp2
  go_loopw [1, 5] (fun x i wr => ∃ j : Nat, j ≤ xs.length ∧ i = .int .i64 j ∧ x = .int .i64 (cnt szB k (xs.take j) : Nat) ∧ Hid (∃ ts, GO KB wr S (.slice a1 xs.length c1) ts (mkd szB mkB k j xs)) ∧ Hid (Chg S w wr)) (fun _ i _ => xs.length - (intOf i).toNat)
  case atStart => exact ⟨0, Nat.zero_le _, rfl, rfl, ⟨ts, by rw [mkd_zero]; exact HG.out⟩, Chg.refl _ _⟩
  case round =>
    obtain ⟨j, hj, rfl, rfl, HT, HC⟩ := hrel
    by_cases hlt : j < xs.length
    · obtain ⟨ts2, hts⟩ := HT.out
      have hl2 : ts2.length = xs.length := by rw [hts.len, mkd_length]
      have hj2 : j < ts2.length := by omega
      obtain ⟨g, c2, e1, k1, k2, k3, k4, k5, -⟩ := hts.row.at j hj2
      simp only [Value.slice.injEq] at e1
      obtain ⟨rfl, -, rfl⟩ := e1
      have hin := hts.inn j hj2 (by rw [mkd_length]; exact hlt)
      rw [mkd_at k j xs hlt] at hin
      obtain ⟨i1, i2, i3⟩ := hin
      obtain ⟨p, hp⟩ : ∃ p, ts2[j].2.1 = p := ⟨_, rfl⟩
      obtain ⟨l, hl⟩ : ∃ l, xs[j].2.1 = l := ⟨_, rfl⟩
      obtain ⟨t0, ht0⟩ : ∃ t, xs[j].2.2 = t := ⟨_, rfl⟩
      rw [i1] at k1
      rw [i3, ht0] at k3
      rw [hp] at k2 i2
      rw [hl] at i2
      have hcle := cnt_le (sz := szB) k xs j hlt
      have hcs := cnt_succ (sz := szB) k xs j hlt
      have hset := mkd_set (sz := szB) (mk := mkB) k j xs hlt
      have hszj : szB xs[j] = 2 + l.length * 2 := by rw [← hl]; rfl
      rw [hszj] at hcle hcs
      have hmk : ∀ K, mkB K xs[j] = (mk3 K, mkS (K + 1) l.length, mkT (K + 1 + l.length * 2)) := fun K => by rw [← hl]; rfl
      rw [hmk] at hset
      have hK2 := cnt_ge (sz := szB) k (xs.take j)
      obtain ⟨K, hK⟩ : ∃ K : Nat, cnt szB k (xs.take j) = K := ⟨_, rfl⟩
      rw [hK] at hcle hcs hset hK2 ⊢
      have hK1 : K + (2 + l.length * 2) ≤ 100000000000000 := Nat.le_trans hcle hk
      have HM : Hid (∀ w1 w2, SOwns w1 0 100 p (mkS (K + 1) l.length) → (wr.setCell ⟨g, j * 3, none⟩ (.bool ((K : Int) % 3 == 0))).grownBy w1 p.ownBlock → Below w1.heap.size w1 w2 → (∃ ts, GO KB (w2.setCell ⟨g, j * 3 + 2, none⟩ (.string (mkT (K + 1 + l.length * 2)))) S (.slice (some ⟨g, 0, none⟩) xs.length c1) ts (mkd szB mkB k (j + 1) xs)) ∧ Chg S w (w2.setCell ⟨g, j * 3 + 2, none⟩ (.string (mkT (K + 1 + l.length * 2))))) := fun w1 w2 hr hg hb => by
        rw [← mk3_int] at hg
        have := hts.markB rfl j hj2 (mk3 K) (mkT (K + 1 + l.length * 2)) (mkS (K + 1) l.length) (by rw [hp]; exact hr) (by rw [hp]; exact hg) hb
        rw [hset] at this
        exact ⟨⟨_, this.1⟩, HC.out.trans this.2⟩
      have hne : ∀ m, p.ownBlock = some m → m ≠ g := fun m hm e => hts.out j hj2 m (by rw [show KB.p ts2[j] = ts2[j].2.1 from rfl, hp]; exact hm) (by rw [e]; rfl)
      have HO : Hid (SOwns (wr.setCell ⟨g, j * 3, none⟩ (.bool ((K : Int) % 3 == 0))) 0 100 p l) := i2.of_heap fun m hm => heap_setCell_other _ ⟨g, j * 3, none⟩ m _ (by simpa using hne m hm)
      have hfr : wr.frozen? ⟨g, j * 3 + 2, none⟩ = false := k4 _
      have HX : Hid (∀ w1 w2, (wr.setCell ⟨g, j * 3, none⟩ (.bool ((K : Int) % 3 == 0))).grownBy w1 p.ownBlock → Below w1.heap.size w1 w2 → w2.cell? ⟨g, j * 3 + 2, none⟩ = some (.string t0) ∧ w2.frozen? ⟨g, j * 3 + 2, none⟩ = false) := fun w1 w2 hg hb => by
        have hgw : g < wr.heap.size := hts.row.lt g rfl
        have hsz1 : wr.heap.size ≤ w1.heap.size := by have := hg.size; simpa using this
        have eh : w2.heap[g]? = (wr.setCell ⟨g, j * 3, none⟩ (.bool ((K : Int) % 3 == 0))).heap[g]? := (hb.block g (by omega)).trans (hg.block g (by simpa using hgw) (fun e => hne g e.symm rfl))
        have hrow0 : TOwns wr KB.T (.slice (some ⟨g, 0, none⟩) ts2.length c1) ts2 := by rw [hl2]; exact hts.row
        have hrow := hrow0.set0 j hj2 (.bool ((K : Int) % 3 == 0))
        have hrow2 : TOwns w2 KB.T (.slice (some ⟨g, 0, none⟩) ts2.length c1) (ts2.set j (.bool ((K : Int) % 3 == 0), ts2[j].2.1, ts2[j].2.2)) := hrow.of_heap fun m hm => by
          have e : m = g := by simpa [Value.ownBlock] using hm.symm
          subst e
          exact eh
        obtain ⟨g', c', e', q1, q2, q3, q4, -⟩ := hrow2.at j (by simpa using hj2)
        simp only [Value.slice.injEq, Option.some.injEq, Addr.mk.injEq] at e'
        obtain ⟨⟨rfl, -⟩, -⟩ := e'
        simp only [List.getElem_set_self] at q3
        rw [i3, ht0] at q3
        exact ⟨q3, q4 _⟩
      have HCS := hide hcs
      have f0 := k4 (j * 3)
      have j0 : (0 : Int) ≤ (j : Int) := by omega
      have j1 : (j : Int) < (xs.length : Int) := by omega
      clear hts HT hp hl hcle hset hszj hmk hK i1 i2 i3 hcs k4 hl2 hj2 hne k3 hfr
      go_wp2_with (first | (go_at_call 61; refine (markS_any p l 0 (K + 1) _ HO.out (by omega) (by omega) (by omega)).mono ?_; rintro e w1 ⟨rfl, R1, G1⟩; have HR1 := hide R1; have HG1 := hide G1; clear R1 G1) | (go_at_call 34; refine (markText_any (K + 1 + l.length * 2) _ (by omega) (by omega)).mono ?_; rintro e w2 ⟨rfl, B2⟩; have H1 := hide (HM.out _ w2 HR1.out HG1.out B2); obtain ⟨y1, y2⟩ := HX.out _ w2 HG1.out B2; clear B2))
      go_roundw
      case rel => exact ⟨j + 1, by omega, by go_num, by rw [HCS.out]; go_num, H1.out.1, H1.out.2⟩
      case measure => simp [intOf]; omega
    · have hjl : j = xs.length := by omega
      have HJ := hide hjl
      clear hjl
      go_wp2
      go_ret
      obtain ⟨ts2, hts⟩ := HT.out
      rw [HJ.out, mkd_all] at hts
      exact ⟨ts2, by rw [HJ.out, cnt_all]; rfl, hts, HC.out⟩
end Go.Proofs.Ytljooldjcefkoaa
/- Disks that are marked, and held against their marks: laws.markDisk, laws.heldDisk by their contracts. -/
namespace Go.Proofs.Ytljooldjcefkoaa
open Go.RowKit Kit
/-- The number behind a marked disk. -/
def cntD (k : Nat) (xs ys : List Bool) (is : List Ino) (bs : List Blk) : Nat := cnt szB (cnt szI (k + xs.length + ys.length) is) bs
/-- A disk of memory of its own, all of whose parts are marked from k on. -/
def DM (w : World) (S : Nat → Prop) (u v iv bv : Value) (k : Nat) (xs ys : List Bool) (is : List Ino) (bs : List Blk) : Prop :=
  DO w S u v iv bv (marksB k xs.length) (marksB (k + xs.length) ys.length) (mkL szI mkI (k + xs.length + ys.length) is) (mkL szB mkB (cnt szI (k + xs.length + ys.length) is) bs)
set_option maxRecDepth 100000 in
set_option maxHeartbeats 1600000 in
theorem markDisk_any (u v iv bv : Value) (xs ys : List Bool) (is : List Ino) (bs : List Blk) (S : Nat → Prop) (k : Nat) (w : World) (h : DO w S u v iv bv xs ys is bs) (hk0 : 1 ≤ k) (hk : cntD k xs ys is bs ≤ 100000000000000) :
    Calls Try.prog 10 #[.agg #[u, v, iv, bv], .int .i64 k] w fun e w' => e = .returned (.int .i64 (cntD k xs ys is bs : Nat)) ∧ DM w' S u v iv bv k xs ys is bs ∧ Chg S w w' := by
  have HF := hide h.dr.form
  obtain ⟨S1, S2, S3, ti, tb, hT, hs1, hi, hb, d1, d2, hU⟩ := h
  have hc1 : cnt szI (k + xs.length + ys.length) is ≤ 100000000000000 := Nat.le_trans (cnt_ge _ _) hk
  have hc0 : k + xs.length + ys.length ≤ 100000000000000 := Nat.le_trans (cnt_ge _ _) hc1
  obtain ⟨K1, hK1⟩ : ∃ K, k + xs.length + ys.length = K := ⟨_, rfl⟩
  obtain ⟨K2, hK2⟩ : ∃ K, cnt szI K1 is = K := ⟨_, rfl⟩
  have hg1 : K1 ≤ K2 := by rw [← hK2]; exact cnt_ge _ _
  have hkb : cnt szB K2 bs ≤ 100000000000000 := by rw [← hK2, ← hK1]; exact hk
  have hCD : cntD k xs ys is bs = cnt szB K2 bs := by rw [cntD, hK1, hK2]
  have HDM : Hid (∀ w', DO w' S u v iv bv (marksB k xs.length) (marksB (k + xs.length) ys.length) (mkL szI mkI K1 is) (mkL szB mkB K2 bs) → DM w' S u v iv bv k xs ys is bs) := fun w' hd => by rw [DM, hK1, hK2]; exact hd
  rw [hK1] at hc1 hc0
  rw [hCD]
  have C1 := hide (fun W h => markN_any u v xs ys 0 k W h (by omega) (by omega) (by omega))
  rw [hK1] at C1
  have C2 := hide (fun W h => markInoS_any iv ti is (fun m => S2 m ∧ m < w.heap.size) K1 W h hc1)
  rw [hK2] at C2
  have C3 := hide (fun W h => markBlkS_any bv tb bs (fun m => S3 m ∧ m < w.heap.size) K2 W h (by omega) hkb)
  generalize cnt szB K2 bs = K3 at *
  have HT := hide hT
  have HI := hide hi.bound
  have HB := hide hb.bound
  have HS := hide (And.intro hs1 (And.intro d1 (And.intro d2 hU)))
  have h12 : ∀ m, (u.ownBlock = some m ∨ v.ownBlock = some m) → m < w.heap.size := fun m hm => hm.elim (fun e => (hT.a.lt m e).2) (fun e => (hT.b.lt m e).2)
  have HL := hide h12
  clear hT hi hb hs1 d1 d2 hU h12 hk hkb hCD hK1 hK2
  obtain ⟨a1, c1, a2, c2, a3, c3, a4, c4, rfl, rfl, rfl, rfl⟩ := HF.out
  go_enter Try.func10, Try.ntmps10
  go_wp2_with fail
  refine (C1.out _ (HT.out.alloc _)).mono ?_
  rintro e w1 ⟨rfl, T1, G1⟩
  have bx1 : AtC w1 w.heap.size 36 #[.slice a1 xs.length c1, .slice a2 ys.length c2, .slice a3 is.length c3, .slice a4 bs.length c4] := (G1.block w.heap.size (by simp) (fun e => Nat.lt_irrefl _ (HL.out _ (.inl e))) (fun e => Nat.lt_irrefl _ (HL.out _ (.inr e)))).trans (AtC.new w 36 _)
  have z1 : w.heap.size + 1 ≤ w1.heap.size := by have := G1.size; simpa using this
  have I1 := (HI.out.alloc (.cells #[.slice a1 xs.length c1, .slice a2 ys.length c2, .slice a3 is.length c3, .slice a4 bs.length c4] 36)).of_heap (w' := w1) fun m hm hlt => G1.block m hlt (fun e => (HS.out.2.1 m (HS.out.1 m (.inl e))).1 hm.1) (fun e => (HS.out.2.1 m (HS.out.1 m (.inr e))).1 hm.1)
  have J1 := (HB.out.alloc (.cells #[.slice a1 xs.length c1, .slice a2 ys.length c2, .slice a3 is.length c3, .slice a4 bs.length c4] 36)).of_heap (w' := w1) fun m hm hlt => G1.block m hlt (fun e => (HS.out.2.1 m (HS.out.1 m (.inl e))).2 hm.1) (fun e => (HS.out.2.1 m (HS.out.1 m (.inr e))).2 hm.1)
  have ch1 : Chg S w w1 := (Chg.of_below ((Below.refl _ w).alloc (Nat.le_refl _) _)).trans (Chg.of_g2 G1 (fun m e => HS.out.2.2.2 m (.inl (HS.out.1 m (.inl e)))) (fun m e => HS.out.2.2.2 m (.inl (HS.out.1 m (.inr e)))))
  have q2 : w1.cell? ⟨w.heap.size, 2, none⟩ = some (.slice a3 is.length c3) := bx1.cell 2
  have H1 := hide (And.intro bx1 (And.intro I1 (And.intro J1 (And.intro ch1 (And.intro z1 T1)))))
  clear bx1 I1 J1 ch1 z1 G1 T1 C1
  go_wp2_with fail
  refine (C2.out _ H1.out.2.1).mono ?_
  rintro e w2 ⟨ti2, rfl, I2, ch2⟩
  have bx2 : AtC w2 w.heap.size 36 #[.slice a1 xs.length c1, .slice a2 ys.length c2, .slice a3 is.length c3, .slice a4 bs.length c4] := (ch2.block w.heap.size (by have := H1.out.2.2.2.2.1; omega) (fun e => Nat.lt_irrefl _ e.2)).trans H1.out.1
  have J2 := H1.out.2.2.1.of_heap (w' := w2) fun m hm hlt => ch2.block m hlt (fun e => HS.out.2.2.1 m e.1 hm.1)
  have T2 : Two w2 0 (.slice a1 xs.length c1) (.slice a2 ys.length c2) (marksB k xs.length) (marksB (k + xs.length) ys.length) :=
    ⟨H1.out.2.2.2.2.2.a.of_heap fun m hm => ch2.block m (H1.out.2.2.2.2.2.a.lt m hm).2 (fun e => (HS.out.2.1 m (HS.out.1 m (.inl hm))).1 e.1), H1.out.2.2.2.2.2.b.of_heap fun m hm => ch2.block m (H1.out.2.2.2.2.2.b.lt m hm).2 (fun e => (HS.out.2.1 m (HS.out.1 m (.inr hm))).1 e.1), H1.out.2.2.2.2.2.ne⟩
  have chg2 : Chg S w w2 := H1.out.2.2.2.1.trans (ch2.mono fun m e => HS.out.2.2.2 m (.inr (.inl e.1)))
  have z2 : w.heap.size + 1 ≤ w2.heap.size := Nat.le_trans H1.out.2.2.2.2.1 ch2.size
  have q3 : w2.cell? ⟨w.heap.size, 3, none⟩ = some (.slice a4 bs.length c4) := bx2.cell 3
  have H2 := hide (And.intro I2 (And.intro J2 (And.intro chg2 (And.intro z2 T2))))
  clear bx2 I2 J2 chg2 z2 T2 ch2 C2 H1
  go_wp2_with fail
  refine (C3.out _ H2.out.2.1).mono ?_
  rintro e w3 ⟨tb2, rfl, J3, ch3⟩
  have I3 := H2.out.1.of_heap (w' := w3) fun m hm hlt => ch3.block m hlt (fun e => HS.out.2.2.1 m hm.1 e.1)
  have T3 : Two w3 0 (.slice a1 xs.length c1) (.slice a2 ys.length c2) (marksB k xs.length) (marksB (k + xs.length) ys.length) :=
    ⟨H2.out.2.2.2.2.a.of_heap fun m hm => ch3.block m (H2.out.2.2.2.2.a.lt m hm).2 (fun e => (HS.out.2.1 m (HS.out.1 m (.inl hm))).2 e.1), H2.out.2.2.2.2.b.of_heap fun m hm => ch3.block m (H2.out.2.2.2.2.b.lt m hm).2 (fun e => (HS.out.2.1 m (HS.out.1 m (.inr hm))).2 e.1), H2.out.2.2.2.2.ne⟩
  have H3 := hide (And.intro (HDM.out w3 ⟨S1, _, _, ti2, tb2, T3, HS.out.1, I3, J3, fun m hm => ⟨fun e => (HS.out.2.1 m hm).1 e.1, fun e => (HS.out.2.1 m hm).2 e.1⟩, fun m hm e => HS.out.2.2.1 m hm.1 e.1, fun m hm => HS.out.2.2.2 m (hm.imp id (Or.imp And.left And.left))⟩) (H2.out.2.2.1.trans (ch3.mono fun m e => HS.out.2.2.2 m (.inr (.inr e.1)))))
  clear I3 T3 J3 ch3 C3 H2
  go_wp2
  go_ret
  exact ⟨rfl, H3.out⟩
end Go.Proofs.Ytljooldjcefkoaa
/- Marks of what is not too big are small. No Go function is spoken of. -/
namespace Go.Proofs.Ytljooldjcefkoaa.Kit
open Go.RowKit
theorem cnt_big {α : Type} {sz : α → Nat} {M : Nat} (k : Nat) (l : List α) (h : ∀ (j : Nat) (h : j < l.length), sz l[j] ≤ M) : cnt sz k l ≤ k + l.length * M := by
  induction l generalizing k with
  | nil => simp [cnt]
  | cons x r ih =>
    have h0 := h 0 (by simp)
    have := ih (k + sz x) (fun j hj => h (j + 1) (by simpa using hj))
    simp only [cnt, List.length_cons, Nat.add_mul] at this ⊢
    simp only [List.getElem_cons_zero] at h0
    omega
/-- Marks of a disk that is not too big are small. -/
theorem cntD_big {xs ys : List Bool} {is : List Ino} {bs : List Blk} (h : Big 1048576 xs ys is bs) : cntD 1 xs ys is bs ≤ 10000000000000 := by
  have h1 := cnt_big (sz := szI) (M := 1048578) (1 + xs.length + ys.length) is (fun j hj => by have := h.p j hj; unfold szI; omega)
  have h2 := cnt_big (sz := szB) (M := 2097154) (cnt szI (1 + xs.length + ys.length) is) bs (fun j hj => by have := (h.s j hj).1; unfold szB; omega)
  have h3 : is.length * 1048578 ≤ 1048576 * 1048578 := Nat.mul_le_mul_right _ h.i
  have h4 : bs.length * 2097154 ≤ 1048576 * 2097154 := Nat.mul_le_mul_right _ h.b
  have := h.x
  have := h.y
  unfold cntD
  omega
end Go.Proofs.Ytljooldjcefkoaa.Kit
