/- Texts of the proof, bundled: Or, Nd, Ns, Na, Tw, Okk, Rd, Ib. -/
import Derived.Laws.Cover1
import Derived.BigQuiet
import Derived.Deep.DeepCutAuto
import Derived.Deep.CutRange
import Derived.Deep.Upon
import Derived.Test.YtljooldjcefkoaaU11
import Derived.Test.YtljooldjcefkoaaU05
import Derived.Test.YtljooldjcefkoaaU07
/- The order of texts, sorted lists of nodes. No Go function is spoken of. -/
namespace Go.Proofs.Ytljooldjcefkoaa
open Go.RowKit Kit
/-- Less, byte by byte. -/
abbrev bl := Op.bytesLess
theorem bl_irrefl : ∀ a : List UInt8, bl a a = false
  | [] => rfl
  | x :: r => by
    have := bl_irrefl r
    simp [bl, Op.bytesLess] at this ⊢
    exact this
theorem bl_cons {x y : UInt8} {a b : List UInt8} : bl (x :: a) (y :: b) = true ↔ x < y ∨ (x = y ∧ bl a b = true) := by
  simp [bl, Op.bytesLess]
theorem bl_asymm : ∀ {a b : List UInt8}, bl a b = true → bl b a = false
  | [], [], h => by simp [bl, Op.bytesLess] at h
  | [], _ :: _, _ => by simp [bl, Op.bytesLess]
  | _ :: _, [], h => by simp [bl, Op.bytesLess] at h
  | x :: a, y :: b, h => by
    cases e : bl (y :: b) (x :: a) with
    | false => rfl
    | true =>
      rcases bl_cons.1 h with h1 | ⟨rfl, h1⟩
      · rcases bl_cons.1 e with h2 | ⟨rfl, h2⟩
        · exact absurd h1 (UInt8.lt_asymm h2)
        · exact absurd h1 (UInt8.lt_irrefl _)
      · rcases bl_cons.1 e with h2 | ⟨_, h2⟩
        · exact absurd h2 (UInt8.lt_irrefl _)
        · rw [bl_asymm h1] at h2; cases h2
theorem bl_total : ∀ {a b : List UInt8}, bl a b = false → bl b a = false → a = b
  | [], [], _, _ => rfl
  | [], _ :: _, h, _ => by simp [bl, Op.bytesLess] at h
  | _ :: _, [], _, h => by simp [bl, Op.bytesLess] at h
  | x :: a, y :: b, h, h' => by
    have h1 : ¬ (x < y ∨ (x = y ∧ bl a b = true)) := fun e => by rw [bl_cons.2 e] at h; cases h
    have h2 : ¬ (y < x ∨ (y = x ∧ bl b a = true)) := fun e => by rw [bl_cons.2 e] at h'; cases h'
    have e : x = y := by
      have a1 : ¬ x < y := fun e => h1 (.inl e)
      have a2 : ¬ y < x := fun e => h2 (.inl e)
      exact UInt8.le_antisymm (UInt8.not_lt.1 a2) (UInt8.not_lt.1 a1)
    subst e
    rw [bl_total (a := a) (b := b)]
    · cases q : bl a b with
      | false => rfl
      | true => exact absurd (.inr ⟨rfl, q⟩) h1
    · cases q : bl b a with
      | false => rfl
      | true => exact absurd (.inr ⟨rfl, q⟩) h2
theorem bl_trans {a b c : List UInt8} (h : bl a b = true) (h' : bl b c = true) : bl a c = true := by
  induction a generalizing b c with
  | nil =>
    cases c with
    | nil => cases b <;> simp [bl, Op.bytesLess] at h'
    | cons z c => simp [bl, Op.bytesLess]
  | cons x a ih =>
    cases b with
    | nil => simp [bl, Op.bytesLess] at h
    | cons y b =>
      cases c with
      | nil => simp [bl, Op.bytesLess] at h'
      | cons z c =>
        rcases bl_cons.1 h with h1 | ⟨rfl, h1⟩
        · rcases bl_cons.1 h' with h2 | ⟨rfl, h2⟩
          · exact bl_cons.2 (.inl (UInt8.lt_trans h1 h2))
          · exact bl_cons.2 (.inl h1)
        · rcases bl_cons.1 h' with h2 | ⟨rfl, h2⟩
          · exact bl_cons.2 (.inl h2)
          · exact bl_cons.2 (.inr ⟨rfl, ih h1 h2⟩)
/-- Not greater is passed on. -/
theorem bl_le_trans {a b c : List UInt8} (h1 : bl b a = false) (h2 : bl c b = false) : bl c a = false := by
  cases e : bl c a with
  | false => rfl
  | true =>
    cases e2 : bl a b with
    | true => rw [bl_trans e e2] at h2; cases h2
    | false =>
      have := bl_total h1 e2
      subst this
      rw [h2] at e; cases e
theorem bl_gt (a b : List UInt8) : (!(Op.bytesLess a b || a == b)) = bl b a := by
  cases e : bl a b with
  | true => rw [bl_asymm e, show Op.bytesLess a b = true from e]; rfl
  | false =>
    rw [show Op.bytesLess a b = false from e, Bool.false_or]
    cases e2 : bl b a with
    | true =>
      have : ¬ a = b := fun q => by subst q; rw [bl_irrefl] at e2; cases e2
      simp [this]
    | false =>
      have := bl_total e e2
      simp [this]
theorem swap_perm {α : Type} : ∀ (q : Nat) (l : List α) (h : q + 1 < l.length), ((l.set (q + 1) (l[q]'(by omega))).set q l[q + 1]).Perm l
  | 0, x :: y :: r, _ => by simpa using List.Perm.swap x y r
  | 0, [_], h => by simp at h
  | 0, [], h => by simp at h
  | q + 1, [], h => by simp at h
  | q + 1, x :: r, h => by
    have := swap_perm q r (by simpa using h)
    simpa using this
end Go.Proofs.Ytljooldjcefkoaa
/- Lists of nodes of a life's model: rows of four cells. No Go function is spoken of. -/
namespace Go.Proofs.Ytljooldjcefkoaa.Kit
open Go.RowKit
theorem AtC.empty {w : World} {g : Nat} {T : TypeId} (h : AtC w g T #[]) (B : Nat) (hB : B ≤ g) (m : Nat) : w.ownsRow B T m (.slice (some ⟨g, 0, none⟩) 0 0) 0 [] :=
  ⟨by simp, .inr ⟨g, 0, #[], rfl, hB, h, Nat.le_refl _, Nat.zero_le _, by simp, by simp⟩⟩
theorem NOwns.rc {w : World} {e : TypeId} {n : Nat} {v : Value} {ts : List Row} (h : NOwns w e n v ts) : RC w v ts.length ts.flatten := by
  have hf := flat_length h.1
  rcases h.2.2 with ⟨h1, h0⟩ | ⟨g, cap, cur, rfl, h2, h3, h4, h5, h6, h7⟩
  · have : ts = [] := List.length_eq_zero_iff.mp h0
    subst this
    obtain ⟨a, c, e1, -⟩ := h.form
    exact ⟨a, c, e1, fun j u hj => by simp at hj⟩
  · have h' : w.ownsRow 0 e n (.slice (some ⟨g, 0, none⟩) ts.length cap) ts.length ts.flatten := h.2
    refine ⟨_, _, rfl, fun j u hj => ⟨g, 0, rfl, ?_⟩⟩
    rw [Nat.zero_add]
    exact (h'.cellAt j (by have := List.getElem?_eq_some_iff.mp hj; obtain ⟨q, -⟩ := this; omega)).trans hj
/-- A node: its path, whether it is a directory, its texts. -/
abbrev Nd := ByteArray × Bool × ByteArray × ByteArray
def ndRow (x : Nd) : Row := [.string x.1, .bool x.2.1, .string x.2.2.1, .string x.2.2.2]
/-- A list of nodes of its own, in blocks from B on. -/
def NdO (w : World) (B : Nat) (v : Value) (ns : List Nd) : Prop := NOwns w 61 4 v (ns.map ndRow) ∧ ∀ k, v.ownBlock = some k → B ≤ k
namespace NdO
variable {w w' : World} {B : Nat} {v : Value} {ns : List Nd}
theorem lt (h : NdO w B v ns) : ∀ k, v.ownBlock = some k → B ≤ k ∧ k < w.heap.size := fun k hk => ⟨h.2 k hk, h.1.lt k hk⟩
theorem of_heap (h : NdO w B v ns) (hh : ∀ k, v.ownBlock = some k → w'.heap[k]? = w.heap[k]?) : NdO w' B v ns := ⟨h.1.of_heap hh, h.2⟩
theorem below (h : NdO w B v ns) (hb : Below w.heap.size w w') : NdO w' B v ns := h.of_heap fun k hk => hb.block k (h.lt k hk).2
theorem mono {B' : Nat} (h : NdO w B v ns) (hB : B' ≤ B) : NdO w B' v ns := ⟨h.1, fun k hk => Nat.le_trans hB (h.2 k hk)⟩
theorem nil (w : World) (B : Nat) : NdO w B (.slice none 0 0) [] := ⟨NOwns.nil _ _ _, fun k hk => by simp [Value.ownBlock] at hk⟩
theorem lit0 (w : World) : NdO (w.alloc (.cells #[] 61)) w.heap.size (.slice (some ⟨w.heap.size, 0, none⟩) 0 0) [] := by
  refine ⟨?_, fun k hk => by simp [Value.ownBlock] at hk; omega⟩
  have := NOwns.of_at (n := 4) (ts := []) (AtC.new w 61 #[]) rfl (Even.nil _) (Nat.zero_le _)
  simpa using this
theorem form (h : NdO w B v ns) : ∃ a cap, v = .slice a ns.length cap := by
  obtain ⟨a, cap, e, -⟩ := h.1.form
  rw [List.length_map] at e
  exact ⟨a, cap, e⟩
theorem rc (h : NdO w B v ns) : RC w v ns.length (ns.map ndRow).flatten := by
  have := h.1.rc
  rwa [List.length_map] at this
theorem at_ (h : NdO w B v ns) (j : Nat) (hj : j < ns.length) : ∃ g cap, v = .slice (some ⟨g, 0, none⟩) ns.length cap ∧ w.cell? ⟨g, j * 4, none⟩ = some (.string ns[j].1) ∧ w.cell? ⟨g, j * 4 + 1, none⟩ = some (.bool ns[j].2.1) ∧ w.cell? ⟨g, j * 4 + 2, none⟩ = some (.string ns[j].2.2.1) ∧ w.cell? ⟨g, j * 4 + 3, none⟩ = some (.string ns[j].2.2.2) ∧ (∀ k, w.frozen? ⟨g, k, none⟩ = false) ∧ g < w.heap.size ∧ B ≤ g := by
  obtain ⟨g, cap, e, hc, hf, hg, -⟩ := h.1.at j (by rw [List.length_map]; exact hj)
  rw [List.length_map] at e
  refine ⟨g, cap, e, ?_, ?_, ?_, ?_, hf, hg, h.2 g (by rw [e]; rfl)⟩
  · have := hc 0 (by decide); rw [List.getElem_map] at this; exact this
  · have := hc 1 (by decide); rw [List.getElem_map] at this; exact this
  · have := hc 2 (by decide); rw [List.getElem_map] at this; exact this
  · have := hc 3 (by decide); rw [List.getElem_map] at this; exact this
/-- A row is stored. -/
theorem put {g cap : Nat} (h : NdO w B (.slice (some ⟨g, 0, none⟩) ns.length cap) ns) (j : Nat) (hj : j < ns.length) (x : Nd) : NdO ((((w.setCell ⟨g, j * 4, none⟩ (.string x.1)).setCell ⟨g, j * 4 + 1, none⟩ (.bool x.2.1)).setCell ⟨g, j * 4 + 2, none⟩ (.string x.2.2.1)).setCell ⟨g, j * 4 + 3, none⟩ (.string x.2.2.2)) B (.slice (some ⟨g, 0, none⟩) ns.length cap) (ns.set j x) := by
  refine ⟨?_, h.2⟩
  have h1 : NOwns w 61 4 (.slice (some ⟨g, 0, none⟩) (ns.map ndRow).length cap) (ns.map ndRow) := by rw [List.length_map]; exact h.1
  have := NOwns.setRow j (ndRow x) w (ns.map ndRow) (by rw [List.length_map]; exact hj) [] h1 rfl (by simp)
  rw [List.length_map] at this
  rw [List.map_set]
  exact this
end NdO
end Go.Proofs.Ytljooldjcefkoaa.Kit
/- Of the specification: l14Sorted by its contract: a list of its own, of the same nodes. -/
namespace Go.Proofs.Ytljooldjcefkoaa
open Go.RowKit Kit
/-- Of all but the one at q, up to n: none is less than one ahead of it. -/
def SrtX (ms : List Nd) (n q : Nat) : Prop := ∀ (a b : Nat) (hb : b < ms.length) (hab : a < b), b < n → b ≠ q → bl ms[b].1.toList (ms[a]'(Nat.lt_trans hab hb)).1.toList = false
/-- Just these nodes, the first ones in order. -/
def Prm (ms ns : List Nd) (n q : Nat) : Prop := ms.Perm ns ∧ SrtX ms n q
theorem Prm.start (ns : List Nd) : Prm ns ns 1 1 := ⟨.refl _, fun a b hb hab h1 _ => by omega⟩
theorem Prm.inner {ms ns : List Nd} {n : Nat} (h : Prm ms ns n n) : Prm ms ns (n + 1) n := ⟨h.1, fun a b hb hab h1 h2 => h.2 a b hb hab (by omega) (by omega)⟩
theorem Prm.zero {ms ns : List Nd} {n : Nat} (h : Prm ms ns n 0) : Prm ms ns n n := ⟨h.1, fun a b hb hab h1 _ => h.2 a b hb hab h1 (by omega)⟩
theorem Prm.stop {ms ns : List Nd} {n q : Nat} (h : Prm ms ns n (q + 1)) (hl : q + 1 < ms.length) (hn : q + 1 < n) (hg : bl (ms[q + 1]).1.toList (ms[q]'(by omega)).1.toList = false) : Prm ms ns n n := by
  refine ⟨h.1, fun a b hb hab h1 _ => ?_⟩
  by_cases e : b = q + 1
  · subst e
    by_cases e2 : a = q
    · subst e2; exact hg
    · exact bl_le_trans (h.2 a q (by omega) (by omega) (by omega) (by omega)) hg
  · exact h.2 a b hb hab h1 e
theorem Prm.swap {ms ns : List Nd} {n q : Nat} (h : Prm ms ns n (q + 1)) (hl : q + 1 < ms.length) (hn : q + 1 < n) (hg : bl (ms[q + 1]).1.toList (ms[q]'(by omega)).1.toList = true) : Prm ((ms.set (q + 1) (ms[q]'(by omega))).set q ms[q + 1]) ns n q := by
  refine ⟨(swap_perm q ms hl).trans h.1, fun a b hb hab h1 h2 => ?_⟩
  have hb' : b < ms.length := by simpa using hb
  have hval : ∀ (i : Nat) (hi : i < ms.length), ((ms.set (q + 1) (ms[q]'(by omega))).set q ms[q + 1])[i]'(by simpa using hi) = if i = q then ms[q + 1] else if i = q + 1 then (ms[q]'(by omega)) else ms[i] := by
    intro i hi
    rw [List.getElem_set]
    by_cases e : i = q
    · subst e; simp
    · rw [if_neg (fun x => e x.symm), List.getElem_set, if_neg e]
      by_cases e2 : i = q + 1
      · subst e2; simp
      · rw [if_neg (fun x => e2 x.symm), if_neg e2]
  rw [hval b hb', hval a (by omega), if_neg h2]
  by_cases e : b = q + 1
  · subst e
    rw [if_pos rfl]
    by_cases e2 : a = q
    · subst e2; rw [if_pos rfl]; exact bl_asymm hg
    · rw [if_neg e2, if_neg (by omega)]
      exact h.2 a q (by omega) (by omega) (by omega) (by omega)
  · rw [if_neg e]
    by_cases e2 : a = q
    · subst e2; rw [if_pos rfl]; exact h.2 (a + 1) b hb' (by omega) h1 e
    · rw [if_neg e2]
      by_cases e3 : a = q + 1
      · subst e3; rw [if_pos rfl]; exact h.2 q b hb' (by omega) h1 e
      · rw [if_neg e3]; exact h.2 a b hb' hab h1 e
theorem Try.u30 : Try.prog.underlying 30 = some (.slice 61) := by kernel_rfl
theorem Try.i61 : (Try.prog.info? 61).map (fun i => (i.zero, i.size, i.bytes)) = some (some (.agg #[.string ⟨#[]⟩, .bool false, .string ⟨#[]⟩, .string ⟨#[]⟩]), 4, 56) := by kernel_rfl
theorem ndRows_len (ns : List Nd) : (ns.map ndRow).flatten.length = ns.length * 4 := by
  induction ns with
  | nil => rfl
  | cons x r ih => simp only [List.map_cons, List.flatten_cons, List.length_append, ih, List.length_cons]; show 4 + _ = _; omega
theorem ndRows_one (ns : List Nd) : ∀ u ∈ (ns.map ndRow).flatten, u.oneCell' = true := fun u hu => by
  obtain ⟨r, hr, hu⟩ := List.mem_flatten.mp hu
  obtain ⟨x, -, rfl⟩ := List.mem_map.mp hr
  simp only [ndRow, List.mem_cons, List.not_mem_nil, or_false] at hu
  rcases hu with rfl | rfl | rfl | rfl <;> rfl
theorem NdO.of_owns {w : World} {B : Nat} {v : Value} {ns : List Nd} (h : w.ownsRow B 61 4 v ns.length (ns.map ndRow).flatten) : NdO w B v ns := by
  refine ⟨⟨fun t ht => ?_, ?_⟩, fun k hk => (World.ownsRow.lt h k hk).1⟩
  · obtain ⟨x, -, rfl⟩ := List.mem_map.mp ht
    rfl
  · rw [List.length_map]
    refine ⟨h.1, h.2.imp id ?_⟩
    rintro ⟨g, cap, cur, h1, h2, h3⟩
    exact ⟨g, cap, cur, h1, Nat.zero_le _, h3⟩
set_option maxRecDepth 100000 in
set_option maxHeartbeats 6400000 in
theorem sorted_any (B : Nat) (v : Value) (ns : List Nd) (w : World) (h : NdO w B v ns) (hl : ns.length ≤ 5000) :
    Calls Try.prog 17 #[v] w fun e w' => ∃ v' ns', e = .returned v' ∧ NdO w' w.heap.size v' ns' ∧ ns'.Perm ns ∧ ns'.Pairwise (fun x y => bl y.1.toList x.1.toList = false) ∧ Below w.heap.size w w' := by
  obtain ⟨a0, c0, rfl⟩ := h.form
  have HRC : Hid (RC (w.alloc (.cells #[] 61)) (.slice a0 ns.length c0) ns.length (ns.map ndRow).flatten) := (h.below ((Below.refl _ w).alloc (Nat.le_refl _) _)).rc
  have HE : Hid ((w.alloc (.cells #[] 61)).ownsRow w.heap.size 61 4 (.slice (some ⟨w.heap.size, 0, none⟩) 0 0) 0 []) := (AtC.new w 61 #[]).empty _ (Nat.le_refl _) 4
  have HLN : Hid (ns.length ≤ 100000000000) := by show _ ≤ _; omega
  clear h
  go_enter Try.func17, Try.ntmps17
  go_wp2_with (at_builtin; refine wpList_append_copy _ rfl _ _ 30 rfl w.heap.size 61 Try.u30 _ 4 56 Try.i61 rfl (by decide) (by decide) (.slice (some ⟨w.heap.size, 0, none⟩) 0 0) rfl HE.out (by simp) _ rfl ns.length (ns.map ndRow).flatten HRC.out (ndRows_len ns) (ndRows_one ns) HLN.out ?_; intro v1 w1 R1 R2 R3)
  have HO1 : Hid (NdO w1 w.heap.size v1 ns ∧ Below w.heap.size w w1) := by
    refine ⟨NdO.of_owns R1, ((Below.refl _ w).alloc (Nat.le_refl _) (.cells #[] 61)).grown R2 (by simp) (fun k hk => ?_)⟩
    simp [Value.ownBlock] at hk
    omega
  obtain ⟨a1, c1, rfl⟩ := HO1.out.1.form
  clear R1 R2 R3 HRC HE
  go_loopw [4] (fun i wr => ∃ n : Nat, 1 ≤ n ∧ n ≤ 5001 ∧ i = .int .i64 n ∧ Hid (∃ ms : List Nd, NdO wr w.heap.size (.slice a1 ns.length c1) ms ∧ ms.length = ns.length ∧ Prm ms ns n n ∧ Below w.heap.size w wr)) (fun i _ => 5001 - (intOf i).toNat)
  case atStart => exact ⟨1, Nat.le_refl _, by omega, rfl, ns, HO1.out.1, rfl, Prm.start ns, HO1.out.2⟩
  case round =>
    obtain ⟨n, hn1, hn2, rfl, HR⟩ := hrel
    by_cases hlt : n < ns.length
    rotate_left
    · have n1 : ¬ ((n : Int) < (ns.length : Int)) := by omega
      obtain ⟨ms, hms⟩ := HR.out
      have HQ := hide hms
      clear hms HR HO1
      go_wp2
      go_ret
      exact ⟨.slice a1 ns.length c1, rfl, ms, HQ.out.1, HQ.out.2.2.1.1, List.pairwise_iff_getElem.2 (fun a b ha hb hab => HQ.out.2.2.1.2 a b hb hab (by have := HQ.out.2.1; omega) (by have := HQ.out.2.1; omega)), HQ.out.2.2.2⟩
    have n1 : (n : Int) < (ns.length : Int) := by omega
    have n2 : n < 5000 := by omega
    clear HO1
    go_wp2_with fail
    go_loopw [5] (fun kk wr => ∃ q : Nat, q ≤ n ∧ kk = .int .i64 q ∧ Hid (∃ ms : List Nd, NdO wr w.heap.size (.slice a1 ns.length c1) ms ∧ ms.length = ns.length ∧ Prm ms ns (n + 1) q ∧ Below w.heap.size w wr)) (fun kk _ => (intOf kk).toNat)
    case atStart =>
      obtain ⟨ms, h1, h2, h3, h4⟩ := HR.out
      exact ⟨n, Nat.le_refl _, rfl, ms, h1, h2, h3.inner, h4⟩
    case round =>
      obtain ⟨q, hq, rfl, HS⟩ := hrel
      have HSD : Hid (∀ k, ∃ ms : List Nd, NdO (wr.drewN k) w.heap.size (.slice a1 ns.length c1) ms ∧ ms.length = ns.length ∧ Prm ms ns (n + 1) q ∧ Below w.heap.size w (wr.drewN k)) := fun k => by
        obtain ⟨ms, h1, h2, h3, h4⟩ := HS.out
        exact ⟨ms, h1.below (below_drewN (Below.refl _ _) _), h2, h3, below_drewN h4 _⟩
      clear HR
      cases q with
      | zero =>
        go_upto_region 6 with fail
        go_quiet (fail)
        go_wp2
        go_roundw
        case rel =>
          obtain ⟨ms, h1, h2, h3, h4⟩ := HSD.out _
          exact ⟨n + 1, by omega, by omega, by go_num, ms, h1, h2, h3.zero, h4⟩
        case measure => simp [intOf]; omega
      | succ q =>
        obtain ⟨ms, hms⟩ := HS.out
        have HQ := hide hms
        clear hms HS
        obtain ⟨g, cap, e1, p0, p1, p2, p3, hfz, hg, hgB⟩ := HQ.out.1.at_ q (by rw [HQ.out.2.1]; omega)
        obtain ⟨g', cap', e2, r0, r1, r2, r3, -, -, -⟩ := HQ.out.1.at_ (q + 1) (by rw [HQ.out.2.1]; omega)
        rw [HQ.out.2.1] at e1 e2
        simp only [Value.slice.injEq, true_and] at e1 e2
        obtain ⟨rfl, rfl⟩ := e1
        simp only [Option.some.injEq, Addr.mk.injEq, and_true] at e2
        obtain ⟨rfl, -⟩ := e2
        obtain ⟨⟨xa, xb, xc, xd⟩, hX⟩ : ∃ X, ms[q]'(by rw [HQ.out.2.1]; omega) = X := ⟨_, rfl⟩
        obtain ⟨⟨ya, yb, yc, yd⟩, hY⟩ : ∃ Y, ms[q + 1]'(by rw [HQ.out.2.1]; omega) = Y := ⟨_, rfl⟩
        rw [hX] at p0 p1 p2 p3
        rw [hY] at r0 r1 r2 r3
        have HXY := hide (And.intro hX hY)
        have HGT := hide (bl_gt xa.toList ya.toList)
        clear hX hY
        simp only at p0 p1 p2 p3 r0 r1 r2 r3
        have hq0 : (0 : Int) < (q : Int) + 1 := by omega
        have hqw : IntKind.i64.wrap (q : Int) = (q : Int) := wrap_small _ (by omega) (by omega)
        have q0 : (0 : Int) ≤ (q : Int) := by omega
        have q1 : (q : Int) < (ns.length : Int) := by omega
        have q2 : (q : Int) + 1 < (ns.length : Int) := by omega
        have q3 : q < 5000 := by omega
        clear HSD
        go_upto_region 6 with fail
        go_cut [32] from 17 to 51 (fun c wx => c = .bool (bl ya.toList xa.toList) ∧ NdO wx w.heap.size (.slice (some ⟨g, 0, none⟩) ns.length c1) ms ∧ Below w.heap.size w wx)
        case first =>
          go_quiet (fail)
          go_wp2_with fail
          go_meet
          exact ⟨by rw [← HGT.out, Bool.not_or], HQ.out.1.below (below_drewN (Below.refl _ _) _), below_drewN HQ.out.2.2.2 _⟩
        case rest =>
          obtain ⟨rfl, hN, hBl⟩ := hcut
          obtain ⟨r, hr⟩ : ∃ r, bl ya.toList xa.toList = r := ⟨_, rfl⟩
          rw [hr]
          have HR2 := hide hr
          clear hr HGT
          have HN := hide (And.intro hN hBl)
          clear p0 p1 p2 p3 r0 r1 r2 r3 hfz hg hN hBl
          cases r with
          | false =>
            go_wp2
            go_roundw
            case rel => exact ⟨n + 1, by omega, by omega, by go_num, ms, HN.out.1, HQ.out.2.1, HQ.out.2.2.1.stop (by rw [HQ.out.2.1]; omega) (by omega) (by rw [HXY.out.1, HXY.out.2]; exact HR2.out), HN.out.2⟩
            case measure => simp [intOf]; omega
          | true =>
            obtain ⟨g2, cap2, e1, p0, p1, p2, p3, hfz, hg, -⟩ := HN.out.1.at_ q (by rw [HQ.out.2.1]; omega)
            obtain ⟨g3, cap3, e2, r0, r1, r2, r3, -, -, -⟩ := HN.out.1.at_ (q + 1) (by rw [HQ.out.2.1]; omega)
            rw [HQ.out.2.1] at e1 e2
            simp only [Value.slice.injEq, Option.some.injEq, Addr.mk.injEq, true_and, and_true] at e1 e2
            obtain ⟨rfl, rfl⟩ := e1
            obtain ⟨rfl, -⟩ := e2
            rw [HXY.out.1] at p0 p1 p2 p3
            rw [HXY.out.2] at r0 r1 r2 r3
            simp only at p0 p1 p2 p3 r0 r1 r2 r3
            have f0 := hfz (q * 4)
            have f1 := hfz (q * 4 + 1)
            have f2 := hfz (q * 4 + 2)
            have f3 := hfz (q * 4 + 3)
            have k0 := hfz ((q + 1) * 4)
            have k1 := hfz ((q + 1) * 4 + 1)
            have k2 := hfz ((q + 1) * 4 + 2)
            have k3 := hfz ((q + 1) * 4 + 3)
            have HREL : Hid (∃ q' : Nat, q' ≤ n ∧ Value.int .i64 (q : Int) = .int .i64 q' ∧ Hid (∃ ms : List Nd, NdO (((((((((wc.setCell ⟨g, (q + 1) * 4, none⟩ (.string xa)).setCell ⟨g, (q + 1) * 4 + 1, none⟩ (.bool xb)).setCell ⟨g, (q + 1) * 4 + 2, none⟩ (.string xc)).setCell ⟨g, (q + 1) * 4 + 3, none⟩ (.string xd)).setCell ⟨g, q * 4, none⟩ (.string ya)).setCell ⟨g, q * 4 + 1, none⟩ (.bool yb)).setCell ⟨g, q * 4 + 2, none⟩ (.string yc)).setCell ⟨g, q * 4 + 3, none⟩ (.string yd)).alloc (.cells #[.string ya, .bool yb, .string yc, .string yd] 61)) w.heap.size (.slice (some ⟨g, 0, none⟩) ns.length c1) ms ∧ ms.length = ns.length ∧ Prm ms ns (n + 1) q' ∧ Below w.heap.size w (((((((((wc.setCell ⟨g, (q + 1) * 4, none⟩ (.string xa)).setCell ⟨g, (q + 1) * 4 + 1, none⟩ (.bool xb)).setCell ⟨g, (q + 1) * 4 + 2, none⟩ (.string xc)).setCell ⟨g, (q + 1) * 4 + 3, none⟩ (.string xd)).setCell ⟨g, q * 4, none⟩ (.string ya)).setCell ⟨g, q * 4 + 1, none⟩ (.bool yb)).setCell ⟨g, q * 4 + 2, none⟩ (.string yc)).setCell ⟨g, q * 4 + 3, none⟩ (.string yd)).alloc (.cells #[.string ya, .bool yb, .string yc, .string yd] 61)))) := by
              have hml := HQ.out.2.1
              have N0 := HN.out.1
              rw [← hml] at N0
              have N1 := N0.put (q + 1) (by omega) (xa, xb, xc, xd)
              have N1' : NdO ((((wc.setCell ⟨g, (q + 1) * 4, none⟩ (.string xa)).setCell ⟨g, (q + 1) * 4 + 1, none⟩ (.bool xb)).setCell ⟨g, (q + 1) * 4 + 2, none⟩ (.string xc)).setCell ⟨g, (q + 1) * 4 + 3, none⟩ (.string xd)) w.heap.size (.slice (some ⟨g, 0, none⟩) (ms.set (q + 1) (xa, xb, xc, xd)).length c1) (ms.set (q + 1) (xa, xb, xc, xd)) := by rw [List.length_set]; exact N1
              have N2 := N1'.put q (by rw [List.length_set]; omega) (ya, yb, yc, yd)
              rw [List.length_set, hml] at N2
              refine ⟨q, by omega, rfl, _, N2.below ((Below.refl _ _).alloc (Nat.le_refl _) _), by rw [List.length_set, List.length_set]; exact hml, ?_, ?_⟩
              · have := HQ.out.2.2.1.swap (by rw [hml]; omega) (by omega) (by rw [HXY.out.1, HXY.out.2]; exact HR2.out)
                rw [HXY.out.1, HXY.out.2] at this
                exact this
              · have b0 := (((((((HN.out.2.setCell (p := ⟨g, (q + 1) * 4, none⟩) hgB (.string xa)).setCell (p := ⟨g, (q + 1) * 4 + 1, none⟩) hgB (.bool xb)).setCell (p := ⟨g, (q + 1) * 4 + 2, none⟩) hgB (.string xc)).setCell (p := ⟨g, (q + 1) * 4 + 3, none⟩) hgB (.string xd)).setCell (p := ⟨g, q * 4, none⟩) hgB (.string ya)).setCell (p := ⟨g, q * 4 + 1, none⟩) hgB (.bool yb)).setCell (p := ⟨g, q * 4 + 2, none⟩) hgB (.string yc)).setCell (p := ⟨g, q * 4 + 3, none⟩) hgB (.string yd)
                exact b0.alloc b0.size _
            have hne : ¬ g = wc.heap.size := by omega
            have hne2 : ¬ wc.heap.size = g := by omega
            have z0 : ((q + 1) * 4 = q * 4) = False := by simp; omega
            clear HQ HN hfz HXY HR2
            go_wp2
            go_roundw
            case rel => first | exact HREL.out | ((repeat apply Exists.intro); exact ⟨HREL.out, rfl⟩)
            case measure => simp [intOf]
end Go.Proofs.Ytljooldjcefkoaa
/- Appends to lists of nodes. No Go function is spoken of. -/
namespace Go.Proofs.Ytljooldjcefkoaa
open Go.RowKit Kit Go.Deep
theorem map_append1 (ns : List Nd) (x : Nd) : ns.map ndRow ++ [ndRow x] = (ns ++ [x]).map ndRow := by simp
/-- One node more. -/
theorem step_append_node (W : World) {ops : Array Oper} {o : Oper} {a : Act} {K : Act → World → Prop} {Q : Exit → Act → World → Prop} {E : Prop} (hgd : o.guard = none) (s x : Operand)
    (ho : o.op = .call { callee := .builtin .append, args := #[s, x], argTypes := #[30, 30] }) (B : Nat) (v : Value) (ns : List Nd) (hs : a.eval s = v) (hown : NdO W B v ns) (hB : B ≤ W.heap.size)
    (g : Nat) (y : Nd) (hx : a.eval x = .slice (some ⟨g, 0, none⟩) 1 1) (hc : AtC W g 61 (ndRow y).toArray) (hl : ns.length ≤ 100000000000)
    (h : ∀ v' w', NdO w' B v' (ns ++ [y]) → W.grownBy w' v.ownBlock → (∀ k, v'.ownBlock = some k → v.ownBlock = some k ∨ W.heap.size ≤ k) → K (a.put o.dst v') w') :
    if Region.wanted o (yielded ops a.tmps) = true then Oper.wp Try.prog o a W K Q else E := by
  refine step_append_n W hgd s x 30 ho 61 Try.u30 _ 4 56 Try.i61 rfl (by decide) (by decide) v (ns.map ndRow) hs hown.1 g (ndRow y) rfl hx ?_ ?_ (by rw [List.length_map]; exact hl) ?_
  · intro j u hj
    rw [hc.cell j]
    simpa using hj
  · intro u hu
    simp only [ndRow, List.mem_cons, List.not_mem_nil, or_false] at hu
    rcases hu with rfl | rfl | rfl | rfl <;> rfl
  · intro v' w' h1 h2 h3
    refine h v' w' ⟨by rw [← map_append1]; exact h1, fun k hk => ?_⟩ h2 h3
    rcases h3 k hk with e | e
    · exact hown.2 k e
    · omega
/-- A whole list more. -/
theorem step_append_nodes (W : World) {ops : Array Oper} {o : Oper} {a : Act} {K : Act → World → Prop} {Q : Exit → Act → World → Prop} {E : Prop} (hgd : o.guard = none) (s x : Operand)
    (ho : o.op = .call { callee := .builtin .append, args := #[s, x], argTypes := #[30, 30] }) (B : Nat) (v : Value) (ns : List Nd) (hs : a.eval s = v) (hown : NdO W B v ns) (hB : B ≤ W.heap.size)
    (B' : Nat) (u : Value) (ms : List Nd) (hx : a.eval x = u) (hu : NdO W B' u ms) (hl : ns.length ≤ 100000000000) (hm : ms.length ≤ 100000000)
    (h : ∀ v' w', NdO w' B v' (ns ++ ms) → W.grownBy w' v.ownBlock → (∀ k, v'.ownBlock = some k → v.ownBlock = some k ∨ W.heap.size ≤ k) → K (a.put o.dst v') w') :
    if Region.wanted o (yielded ops a.tmps) = true then Oper.wp Try.prog o a W K Q else E := by
  obtain ⟨i0, hi, hz0, hz1, hz2⟩ := info_parts Try.i61
  obtain ⟨a1, c1, hle⟩ : ∃ a1 c1, v = .slice a1 ns.length c1 ∧ ns.length ≤ c1 := by
    obtain ⟨a1, c1, e, h1, -⟩ := hown.1.form
    rw [List.length_map] at e h1
    exact ⟨a1, c1, e, h1⟩
  obtain ⟨rfl, hle⟩ := hle
  cases ms with
  | nil =>
    rw [if_pos (by simp [Region.wanted, hgd])]
    have hsrc : Src Try.prog i0.size 30 u 0 [] W := by
      obtain ⟨a2, c2, rfl⟩ := hu.form
      cases a2 with
      | none => exact Src.ofNil W Try.u30 c2
      | some a2 => exact Src.ofSlice W Try.u30 a2 0 c2 [] (by simp) (fun j u hj => by simp at hj) (fun u h => by cases h)
    have hr := run_append_nothing W 30 30 o.type 61 i0 Try.u30 hi a1 ns.length c1 hle u hsrc
    unfold Oper.wp execOp
    simp only [ho, resolve, invoke, builtin, Sem.run_bind, Sem.run_pure, Result.andThen_ok, List.map_toArray, List.map_cons, List.map_nil, hs, hx, hr]
    exact h _ W (by rw [List.append_nil]; exact hown) (grownBy_below (Below.refl _ _) _) (fun k hk => .inl hk)
  | cons y r =>
    obtain ⟨g, cap, e, hcell, -, -, -⟩ := hu.1.at 0 (by simp)
    rw [List.length_map] at e
    have hone := ndRows_one (y :: r)
    have hlen := ndRows_len (y :: r)
    refine step_append_lies _ hgd s x 30 ho B 61 i0 _ 4 56 Try.u30 hi hz0 hz1 hz2 rfl (by decide) _ ns.length (ns.map ndRow).flatten hs ?_ ⟨g, 0, none⟩ (y :: r).length cap ((y :: r).map ndRow).flatten (by rw [hx, e]) (by rw [hlen]) ?_ hone (by simp) ?_ ?_ hB W.heap.size rfl ?_
    · have := hown.1.2
      rw [List.length_map] at this
      refine ⟨this.1, this.2.imp id ?_⟩
      rintro ⟨g', cap', cur, q1, q2, q3⟩
      exact ⟨g', cap', cur, q1, hown.2 g' (by rw [q1]; rfl), q3⟩
    · intro j u' hj
      have hrc := hu.rc
      obtain ⟨a2, c2, e2, hc2⟩ := hrc
      obtain ⟨g2, o2, e3, e4⟩ := hc2 j u' hj
      rw [e] at e2
      simp only [Value.slice.injEq] at e2
      rw [← e2.1] at e3
      simp only [Option.some.injEq, Addr.mk.injEq, and_true] at e3
      obtain ⟨rfl, rfl⟩ := e3
      rw [Nat.zero_add] at e4
      by_cases e : j = 0
      · subst e; simpa [Addr.add] using e4
      · simpa [Addr.add, e] using e4
    · unfold maxLen; simp only [List.length_cons] at hm ⊢; omega
    · simp only [List.length_cons] at hm ⊢; omega
    · intro g' cap' w' q1 q2 q3 q4
      refine h _ w' ?_ q2 (fun k hk => ?_)
      · refine NdO.of_owns ?_
        rw [List.length_append, List.map_append, List.flatten_append]
        exact q1
      · simp only [Value.ownBlock, Option.some.injEq] at hk
        subst hk
        rcases q3 with e | e
        · exact .inl e
        · exact .inr (by omega)
end Go.Proofs.Ytljooldjcefkoaa
/- What the specification's walk tells, as a plain function. No Go function is spoken of. -/
namespace Go.Proofs.Ytljooldjcefkoaa
open Go.RowKit Kit
/-- A path and a name below it. -/
def joinP (p nm : ByteArray) : ByteArray := p ++ ⟨#[47]⟩ ++ nm
theorem joinP_size (p nm : ByteArray) : (joinP p nm).size = p.size + 1 + nm.size := by
  simp [joinP, ByteArray.size_append]
  rfl
/-- A name is among those. -/
def hasN (seen : List ByteArray) (nm : ByteArray) : Bool := seen.any fun t => decide (t = nm)
theorem hasN_iff {seen : List ByteArray} {nm : ByteArray} : hasN seen nm = true ↔ nm ∈ seen := by
  simp [hasN]
/-- The first slot of each name (those in seen are there already). -/
def firsts : List Sl → List ByteArray → List Sl
  | [], _ => []
  | s :: r, seen => if hasN seen s.1 = true then firsts r (seen ++ [s.1]) else s :: firsts r (seen ++ [s.1])
theorem firsts_append (a b : List Sl) : ∀ seen, firsts (a ++ b) seen = firsts a seen ++ firsts b (seen ++ a.map (·.1)) := by
  induction a with
  | nil => intro seen; simp [firsts]
  | cons s r ih =>
    intro seen
    rw [List.cons_append, firsts, firsts]
    have e : (seen ++ [s.1]) ++ r.map (·.1) = seen ++ (s :: r).map (·.1) := by simp
    split
    · rw [ih, e]
    · rw [ih, e]; rfl
theorem firsts_take {ns : List Sl} {k : Nat} (h : k < ns.length) : firsts (ns.take (k + 1)) [] = firsts (ns.take k) [] ++ if hasN ((ns.take k).map (·.1)) ns[k].1 = true then [] else [ns[k]] := by
  rw [List.take_succ_eq_append_getElem h, firsts_append, List.nil_append]
  congr 1
theorem firsts_sub : ∀ (l : List Sl) (seen : List ByteArray), List.Sublist (firsts l seen) l
  | [], _ => .slnil
  | s :: r, seen => by
    rw [firsts]
    split
    · exact (firsts_sub r _).cons _
    · exact (firsts_sub r _).cons_cons _
/-- What is told of a slot, and below it. -/
def tellS (is : List Ino) (bs : List Blk) (rec : Int → ByteArray → List Nd) (path : ByteArray) (s : Sl) : List Nd :=
  if kindAt is s.2 = 0 then [] else if kindAt is s.2 = 2 then (joinP path s.1, true, ⟨#[]⟩, ⟨#[]⟩) :: rec s.2 (joinP path s.1) else [(joinP path s.1, false, (textsAt is bs s.2).1, (textsAt is bs s.2).2)]
/-- The specification's walk, n deep. -/
def walkS (is : List Ino) (bs : List Blk) : Nat → Int → ByteArray → List Nd
  | 0, _, _ => []
  | n + 1, i, path => (firsts (named is bs i) []).flatMap (tellS is bs (walkS is bs n) path)
/-- How long a list of nodes is at most, n deep. -/
def deepN : Nat → Nat
  | 0 => 0
  | n + 1 => 8 * (1 + deepN n)
theorem deepN_le {n : Nat} (h : n ≤ 4) : deepN n ≤ 4680 := by
  have : n = 0 ∨ n = 1 ∨ n = 2 ∨ n = 3 ∨ n = 4 := by omega
  rcases this with rfl | rfl | rfl | rfl | rfl <;> decide
theorem tellS_len {is : List Ino} {bs : List Blk} {n : Nat} {rec : Int → ByteArray → List Nd} (h : ∀ i p, (rec i p).length ≤ deepN n) (path : ByteArray) (s : Sl) : (tellS is bs rec path s).length ≤ 1 + deepN n := by
  unfold tellS
  split
  · simp
  · split
    · have := h s.2 (joinP path s.1); simp; omega
    · simp
theorem flatMap_len {α β : Type} {f : α → List β} {m : Nat} : ∀ (l : List α), (∀ x ∈ l, (f x).length ≤ m) → (l.flatMap f).length ≤ l.length * m
  | [], _ => by simp
  | x :: r, h => by
    have h1 := h x (by simp)
    have h2 := flatMap_len r (fun y hy => h y (by simp [hy]))
    rw [List.flatMap_cons, List.length_append, List.length_cons, Nat.add_mul]
    omega
theorem walkS_len {is : List Ino} {bs : List Blk} (h8 : ∀ i, (named is bs i).length ≤ 8) : ∀ (n : Nat) (i : Int) (p : ByteArray), (walkS is bs n i p).length ≤ deepN n
  | 0, _, _ => by simp [walkS]
  | n + 1, i, p => by
    rw [walkS, deepN]
    have h1 := flatMap_len (m := 1 + deepN n) (firsts (named is bs i) []) (fun s _ => tellS_len (is := is) (bs := bs) (walkS_len h8 n) p s)
    have h2 := (firsts_sub (named is bs i) []).length_le
    have h3 := h8 i
    have : (firsts (named is bs i) []).length * (1 + deepN n) ≤ 8 * (1 + deepN n) := Nat.mul_le_mul_right _ (by omega)
    omega
/-- A disk that is right, as far as trees go. -/
structure RD (is : List Ino) (bs : List Blk) : Prop where
  hi : is.length = 8
  hb : bs.length = 16
  kd : ∀ q ∈ is, q.1 = 0 ∨ q.1 = 1 ∨ q.1 = 2
  two : ∀ q ∈ is, q.2.2.length = 2
  four : ∀ q ∈ bs, q.2.1.length ≤ 4
  text : ∀ q ∈ bs, q.1 = false → q.2.1 = []
  nm : ∀ q ∈ bs, ∀ s ∈ q.2.1, s.1 = ⟨#[]⟩ ∨ nameOk s.1 = true
  tx : ∀ q ∈ bs, q.2.2.size ≤ 16
theorem blkAt_cases (bs : List Blk) (x : Int) : blkAt bs x = (false, [], ⟨#[]⟩) ∨ blkAt bs x ∈ bs := by
  cases h : inB x 1 bs.length with
  | false => exact .inl (blkAt_no h)
  | true =>
    obtain ⟨jb, hb, -, e⟩ := blkAt_in h
    exact .inr (by rw [e]; exact List.getElem_mem hb)
theorem kindAt_cases {is : List Ino} (i : Int) : (kindAt is i = 0 ∧ ptrsAt is i = []) ∨ ∃ q ∈ is, kindAt is i = q.1 ∧ ptrsAt is i = q.2.2 := by
  cases h : inB i 1 is.length with
  | false => exact .inl ⟨kindAt_out h, by unfold ptrsAt; rw [h]; rfl⟩
  | true =>
    obtain ⟨h1, h2⟩ := inB_true h
    obtain ⟨j, rfl⟩ : ∃ j : Nat, i = (j : Int) + 1 := ⟨(i - 1).toNat, by omega⟩
    have hj : j < is.length := by omega
    exact .inr ⟨is[j], List.getElem_mem hj, (kindAt_in hj).1, (kindAt_in hj).2⟩
theorem RD.kind {is : List Ino} {bs : List Blk} (h : RD is bs) (i : Int) : kindAt is i = 0 ∨ kindAt is i = 1 ∨ kindAt is i = 2 := by
  rcases kindAt_cases (is := is) i with ⟨e, -⟩ | ⟨q, hq, e, -⟩
  · exact .inl e
  · rw [e]; exact h.kd q hq
theorem RD.blk4 {is : List Ino} {bs : List Blk} (h : RD is bs) (x : Int) : (blkAt bs x).2.1.length ≤ 4 := by
  rcases blkAt_cases bs x with e | e
  · rw [e]; simp
  · exact h.four _ e
theorem nmd_len {is : List Ino} {bs : List Blk} (h : RD is bs) (x : Int) : (nmd (blkAt bs x)).length ≤ 4 := by
  unfold nmd
  split
  · exact Nat.le_trans (List.length_filter_le _ _) (h.blk4 x)
  · simp
theorem RD.named8 {is : List Ino} {bs : List Blk} (h : RD is bs) (i : Int) : (named is bs i).length ≤ 8 := by
  unfold named
  split
  · have h1 := flatMap_len (m := 4) (f := fun p => nmd (blkAt bs p)) (ptrsAt is i) (fun p _ => nmd_len h p)
    have h2 : (ptrsAt is i).length ≤ 2 := by
      rcases kindAt_cases (is := is) i with ⟨-, e⟩ | ⟨q, hq, -, e⟩
      · rw [e]; simp
      · rw [e, h.two q hq]; exact Nat.le_refl _
    have : nmdP bs (ptrsAt is i) = (ptrsAt is i).flatMap (fun p => nmd (blkAt bs p)) := rfl
    rw [this]
    have : (ptrsAt is i).length * 4 ≤ 2 * 4 := Nat.mul_le_mul_right _ h2
    omega
  · simp
theorem RD.name {is : List Ino} {bs : List Blk} (h : RD is bs) {i : Int} {s : Sl} (hs : s ∈ named is bs i) : nameOk s.1 = true := by
  unfold named at hs
  split at hs
  · obtain ⟨p, -, hp⟩ := List.mem_flatMap.1 hs
    unfold nmd at hp
    split at hp
    · obtain ⟨h1, h2⟩ := mem_nmdS hp
      rcases blkAt_cases bs p with e | e
      · rw [e] at h1; simp at h1
      · exact (h.nm _ e s h1).resolve_left h2
    · simp at hp
  · simp at hs
theorem nameOk_size {s : ByteArray} (h : nameOk s = true) : 1 ≤ s.size ∧ s.size ≤ 6 := (of_decide_eq_true h).1
theorem RD.txt {is : List Ino} {bs : List Blk} (h : RD is bs) (i : Int) : (textsAt is bs i).1.size ≤ 16 ∧ (textsAt is bs i).2.size ≤ 16 := by
  have hx : ∀ p, (blkAt bs p).2.2.size ≤ 16 := fun p => by
    rcases blkAt_cases bs p with e | e
    · rw [e]; exact Nat.zero_le _
    · exact h.tx _ e
  unfold textsAt
  split
  · exact ⟨hx _, hx _⟩
  · exact ⟨Nat.zero_le _, Nat.zero_le _⟩
end Go.Proofs.Ytljooldjcefkoaa
/- impl.DiskOk and spec.DiskOk by their contracts. -/
namespace Go.Proofs.Ytljooldjcefkoaa
open Go.RowKit Kit
set_option maxRecDepth 100000 in
set_option maxHeartbeats 1600000 in
theorem implOk_disk (u v iv bv : Value) (xs ys : List Bool) (is : List Ino) (bs : List Blk) (w : World) (h : DR w u v iv bv xs ys is bs) (hi : is.length ≤ 1048576) (hk : bs.length ≤ 1048576) :
    Calls Try.prog 22 #[.agg #[u, v, iv, bv]] w fun e w' => e = .returned (.bool (diskOk xs ys is bs)) ∧ Below w.heap.size w w' := by
  have H := hide h
  obtain ⟨a1, c1, a2, c2, a3, c3, a4, c4, rfl, rfl, rfl, rfl⟩ := h.form
  obtain ⟨x, hx⟩ : ∃ x, okB xs.length ys.length = x := ⟨_, rfl⟩
  obtain ⟨y, hy⟩ : ∃ y, (inosOk is && decide (is.length = 8)) = y := ⟨_, rfl⟩
  obtain ⟨z, hz⟩ : ∃ z, (blksOk bs && decide (bs.length = 16)) = z := ⟨_, rfl⟩
  have hD : diskOk xs ys is bs = (x && y && z) := by unfold diskOk; rw [hx, hy, hz]
  rw [hD]
  have HX := hide hx
  have HY := hide hy
  have HZ := hide hz
  clear h hx hy hz hD
  go_enter Try.func22, Try.ntmps22
  go_wp2_with fail
  refine (implOk_anyB _ _ _ _ _ _ _).mono ?_
  rw [HX.out]
  rintro e w1 ⟨rfl, B1⟩
  have BW : Below w.heap.size w w1 := ((Below.refl _ w).alloc (Nat.le_refl _) _).trans (B1.mono (by simp))
  have K0 : AtC w1 w.heap.size 36 #[.slice a1 xs.length c1, .slice a2 ys.length c2, .slice a3 is.length c3, .slice a4 bs.length c4] := (AtC.new w 36 _).over B1
  have p2 : w1.cell? ⟨w.heap.size, 2, none⟩ = some (.slice a3 is.length c3) := K0.cell 2
  have HBW := hide BW
  have HK0 := hide K0
  clear B1 BW K0
  cases x with
  | false =>
    go_wp2
    go_ret
    exact ⟨rfl, HBW.out⟩
  | true =>
    go_wp2_with fail
    refine (inosRight_any _ is _ (H.out.i.below HBW.out (Nat.le_refl _)) hi).mono ?_
    rw [HY.out]
    rintro e w2 ⟨rfl, B2⟩
    have BW2 := HBW.out.trans (B2.mono HBW.out.size)
    have K0 := HK0.out.over B2
    have p3 : w2.cell? ⟨w.heap.size, 3, none⟩ = some (.slice a4 bs.length c4) := K0.cell 3
    have HBW2 := hide BW2
    clear B2 BW2 K0 HBW
    cases y with
    | false =>
      go_wp2
      go_ret
      exact ⟨rfl, HBW2.out⟩
    | true =>
      go_wp2_with fail
      refine (blksRight_any _ bs _ (H.out.k.below HBW2.out (Nat.le_refl _)) hk).mono ?_
      rw [HZ.out]
      rintro e w3 ⟨rfl, B3⟩
      have HBW3 := hide (HBW2.out.trans (B3.mono HBW2.out.size))
      clear B3
      go_wp2
      go_ret
      exact ⟨rfl, HBW3.out⟩
theorem diskOk_bits {xs ys : List Bool} {is : List Ino} {bs : List Blk} (h : okB xs.length ys.length = false) : false = diskOk xs ys is bs := by unfold diskOk; rw [h]; rfl
theorem diskOk_i {xs ys : List Bool} {is : List Ino} {bs : List Blk} (h : is.length ≠ 8) : false = diskOk xs ys is bs := by unfold diskOk; simp [h]
theorem diskOk_b {xs ys : List Bool} {is : List Ino} {bs : List Blk} (h : bs.length ≠ 16) : false = diskOk xs ys is bs := by unfold diskOk; simp [h]
theorem diskOk_in {xs ys : List Bool} {is : List Ino} {bs : List Blk} (h : inosOk is = false) : false = diskOk xs ys is bs := by unfold diskOk; simp [h]
theorem diskOk_bn {xs ys : List Bool} {is : List Ino} {bs : List Blk} (h : blksOk bs = false) : false = diskOk xs ys is bs := by unfold diskOk; simp [h]
theorem diskOk_yes {xs ys : List Bool} {is : List Ino} {bs : List Blk} (h : okB xs.length ys.length = true) (h1 : is.length = 8) (h2 : bs.length = 16) (h3 : inosOk is = true) (h4 : blksOk bs = true) : true = diskOk xs ys is bs := by unfold diskOk; simp [h, h1, h2, h3, h4]
set_option maxRecDepth 100000 in
set_option maxHeartbeats 3200000 in
theorem specOk_disk (u v iv bv : Value) (xs ys : List Bool) (is : List Ino) (bs : List Blk) (w : World) (h : DR w u v iv bv xs ys is bs) (hB : ∀ (j : Nat) (h : j < bs.length) (k : Nat) (h' : k < bs[j].2.1.length), bs[j].2.1[k].1.size ≤ 1048576) :
    Calls Try.prog 16 #[.agg #[u, v, iv, bv]] w fun e w' => e = .returned (.bool (diskOk xs ys is bs)) ∧ Below w.heap.size w w' := by
  have H := hide h
  have HG := hide hB
  obtain ⟨a3, c3, ri, -, hii⟩ := h.i.ino
  obtain ⟨a4, c4, rb, -, hkk⟩ := h.k.blk
  have HI := hide hii
  have HK := hide hkk
  obtain ⟨a1, c1, a2, c2, -, -, -, -, rfl, rfl, -, -⟩ := h.form
  subst ri rb
  obtain ⟨x, hx⟩ : ∃ x, okB xs.length ys.length = x := ⟨_, rfl⟩
  have HX := hide hx
  obtain ⟨n, hn⟩ : ∃ n, xs.length = n := ⟨_, rfl⟩
  obtain ⟨m, hm⟩ : ∃ m, ys.length = m := ⟨_, rfl⟩
  obtain ⟨ni, hni⟩ : ∃ ni, is.length = ni := ⟨_, rfl⟩
  obtain ⟨nb, hnb⟩ : ∃ nb, bs.length = nb := ⟨_, rfl⟩
  have HN := hide (And.intro hni hnb)
  rw [hn, hm] at hx
  rw [hn, hm, hni, hnb]
  have C := hide (specOk_anyB a1 a2 n m c1 c2)
  rw [hx] at C
  clear h hB hii hkk hx hn hm hni hnb
  go_enter Try.func16, Try.ntmps16
  go_wp2_with fail
  refine (C.out _).mono ?_
  rintro e w1 ⟨rfl, B1⟩
  have BW : Below w.heap.size w w1 := ((Below.refl _ w).alloc (Nat.le_refl _) _).trans (B1.mono (by simp))
  have K0 : AtC w1 w.heap.size 36 #[.slice a1 n c1, .slice a2 m c2, .slice a3 ni c3, .slice a4 nb c4] := (AtC.new w 36 _).over B1
  have p2 : w1.cell? ⟨w.heap.size, 2, none⟩ = some (.slice a3 ni c3) := K0.cell 2
  have p3 : w1.cell? ⟨w.heap.size, 3, none⟩ = some (.slice a4 nb c4) := K0.cell 3
  have HBW := hide BW
  have HK0 := hide K0
  clear B1 BW K0 C
  cases x with
  | false =>
    go_wp2
    go_ret
    exact ⟨ret_bool (diskOk_bits HX.out), HBW.out⟩
  | true =>
    by_cases h8 : ni = 8
    · by_cases h16 : nb = 16
      · subst h8 h16
        go_wp2
        go_loopw [3] (fun i wr => ∃ j : Nat, j ≤ 8 ∧ i = .int .i64 j ∧ Hid (∀ (k : Nat) (h : k < is.length), k < j → inoOk is[k] = true) ∧ Hid (Below w1.heap.size w1 wr)) (fun i _ => 8 - (intOf i).toNat)
        case atStart => exact ⟨0, Nat.zero_le _, rfl, fun _ _ h => absurd h (Nat.not_lt_zero _), Below.refl _ _⟩
        case round =>
          obtain ⟨j, hj, rfl, HS, HBR⟩ := hrel
          have K0 := HK0.out.over HBR.out
          have p4 : wr.cell? ⟨w.heap.size, 2, none⟩ = some (.slice a3 8 c3) := K0.cell 2
          have p5 : wr.cell? ⟨w.heap.size, 3, none⟩ = some (.slice a4 16 c4) := K0.cell 3
          have HB0 := hide (HBW.out.trans (HBR.out.mono HBW.out.size))
          clear K0
          by_cases hlt : j < 8
          · obtain ⟨g1, o1, pp, rfl, hg1, m1, m2, m3, hr1⟩ := HI.out j (by rw [HN.out.1]; exact hlt)
            have q1 := (HB0.out.cell (p := ⟨g1, o1 + j * 3, none⟩) hg1).trans m1
            have q2 := (HB0.out.cell (p := ⟨g1, o1 + j * 3 + 1, none⟩) hg1).trans m2
            have q3 := (HB0.out.cell (p := ⟨g1, o1 + j * 3 + 2, none⟩) hg1).trans m3
            obtain ⟨y, hy⟩ : ∃ x, is[j]'(by rw [HN.out.1]; exact hlt) = x := ⟨_, rfl⟩
            obtain ⟨y, s, z⟩ := y
            rw [hy] at q1 q2 hr1
            obtain ⟨pa, pc, rfl⟩ := hr1.form
            simp only at q1 q2 q3 hr1
            have HR := hide (hr1.below HB0.out (Nat.le_refl _))
            have j0 : (0 : Int) ≤ (j : Int) := by omega
            have j1 : (j : Int) < 8 := by omega
            have HY := hide hy
            clear m1 m2 m3 hr1 hy
            cases hq : okL y s z with
            | true =>
              have HQ := hide hq
              clear hq
              go_wp2_with (go_at_call 39; refine (specOk_anyI _ _ z _ _ HR.out).mono ?_; rw [HQ.out]; rintro e w2 ⟨rfl, B2⟩; have HB2 := hide (HBR.out.trans (B2.mono HBR.out.size)); clear B2)
              go_roundw
              case rel =>
                refine ⟨j + 1, by omega, by go_num, fun k hk hkj => ?_, HB2.out⟩
                by_cases hkk : k = j
                · subst hkk; rw [HY.out]; exact HQ.out
                · exact HS.out k hk (by omega)
              case measure => simp [intOf]; omega
            | false =>
              have hno : inosOk is = false := all_no (by rw [HN.out.1]; exact hlt) (by rw [HY.out]; exact hq)
              have HNO := hide hno
              have HQ := hide hq
              clear hq hno
              go_wp2_with (go_at_call 39; refine (specOk_anyI _ _ z _ _ HR.out).mono ?_; rw [HQ.out]; rintro e w2 ⟨rfl, B2⟩; have HB2 := hide (HB0.out.trans (B2.mono HB0.out.size)); clear B2)
              go_ret
              exact ⟨ret_bool (diskOk_in HNO.out), HB2.out⟩
          · have hyes : inosOk is = true := all_yes fun k hk => HS.out k hk (by rw [HN.out.1] at hk; omega)
            have HYS := hide hyes
            clear hyes
            go_wp2
            go_loopw [4] (fun i wq => ∃ j : Nat, j ≤ 16 ∧ i = .int .i64 j ∧ Hid (∀ (k : Nat) (h : k < bs.length), k < j → blkOk bs[k] = true) ∧ Hid (Below wr.heap.size wr wq)) (fun i _ => 16 - (intOf i).toNat)
            case atStart => exact ⟨0, Nat.zero_le _, rfl, fun _ _ h => absurd h (Nat.not_lt_zero _), Below.refl _ _⟩
            case round =>
              obtain ⟨j, hj, rfl, HS2, HBQ⟩ := hrel
              have HB1 := hide (HB0.out.trans (HBQ.out.mono HB0.out.size))
              have K1 := HK0.out.over (HBR.out.trans (HBQ.out.mono HBR.out.size))
              have p6 : wr.cell? ⟨w.heap.size, 3, none⟩ = some (.slice a4 16 c4) := K1.cell 3
              clear K1
              by_cases hlt2 : j < 16
              · obtain ⟨g1, o1, pp, rfl, hg1, m1, m2, m3, hr1⟩ := HK.out j (by rw [HN.out.2]; exact hlt2)
                have q1 := (HB1.out.cell (p := ⟨g1, o1 + j * 3, none⟩) hg1).trans m1
                have q2 := (HB1.out.cell (p := ⟨g1, o1 + j * 3 + 1, none⟩) hg1).trans m2
                have q3 := (HB1.out.cell (p := ⟨g1, o1 + j * 3 + 2, none⟩) hg1).trans m3
                have key : ∀ b : Blk, bs[j]'(by rw [HN.out.2]; exact hlt2) = b → ∀ (k : Nat) (h' : k < b.2.1.length), b.2.1[k].1.size ≤ 1048576 := by
                  rintro b rfl
                  exact HG.out j _
                obtain ⟨y, hy⟩ : ∃ x, bs[j]'(by rw [HN.out.2]; exact hlt2) = x := ⟨_, rfl⟩
                obtain ⟨y, s, z⟩ := y
                rw [hy] at q1 q3 hr1
                have hbg : ∀ (k : Nat) (h' : k < s.length), s[k].1.size ≤ 1048576 := key _ hy
                obtain ⟨pa, pc, rfl⟩ := hr1.form
                simp only at q1 q2 q3 hr1
                have HR := hide (hr1.below HB1.out (Nat.le_refl _))
                have HBG := hide hbg
                have j0 : (0 : Int) ≤ (j : Int) := by omega
                have j1 : (j : Int) < 16 := by omega
                have HY := hide hy
                clear m1 m2 m3 hr1 hy hbg key
                cases hq : blockOk y s z with
                | true =>
                  have HQ := hide hq
                  clear hq
                  go_wp2_with (go_at_call 40; refine (specOk_anyK _ _ _ s _ HR.out HBG.out).mono ?_; rw [HQ.out]; rintro e w2 ⟨rfl, B2⟩; have HB2 := hide (HBQ.out.trans (B2.mono HBQ.out.size)); clear B2)
                  go_roundw
                  case rel =>
                    refine ⟨j + 1, by omega, by go_num, fun k hk hkj => ?_, HB2.out⟩
                    by_cases hkk : k = j
                    · subst hkk; rw [HY.out]; exact HQ.out
                    · exact HS2.out k hk (by omega)
                  case measure => simp [intOf]; omega
                | false =>
                  have hno : blksOk bs = false := all_no (by rw [HN.out.2]; exact hlt2) (by rw [HY.out]; exact hq)
                  have HNO := hide hno
                  have HQ := hide hq
                  clear hq hno
                  go_wp2_with (go_at_call 40; refine (specOk_anyK _ _ _ s _ HR.out HBG.out).mono ?_; rw [HQ.out]; rintro e w2 ⟨rfl, B2⟩; have HB2 := hide (HB1.out.trans (B2.mono HB1.out.size)); clear B2)
                  go_ret
                  exact ⟨ret_bool (diskOk_bn HNO.out), HB2.out⟩
              · have hyes : blksOk bs = true := all_yes fun k hk => HS2.out k hk (by rw [HN.out.2] at hk; omega)
                have HYS2 := hide hyes
                clear hyes
                go_wp2
                go_ret
                exact ⟨ret_bool (diskOk_yes HX.out HN.out.1 HN.out.2 HYS.out HYS2.out), HB1.out⟩
      · have hne : bs.length ≠ 16 := by rw [HN.out.2]; exact h16
        have HNE := hide hne
        have hb16 : ((nb : Int) != 16) = true := by simp; omega
        clear hne
        subst h8
        go_wp2
        go_ret
        exact ⟨ret_bool (diskOk_b HNE.out), HBW.out⟩
    · have hne : is.length ≠ 8 := by rw [HN.out.1]; exact h8
      have HNE := hide hne
      have hb8 : ((ni : Int) != 8) = true := by simp; omega
      clear hne
      go_wp2
      go_ret
      exact ⟨ret_bool (diskOk_i HNE.out), HBW.out⟩
end Go.Proofs.Ytljooldjcefkoaa
/- A right disk is one as trees want it. No Go function is spoken of. -/
namespace Go.Proofs.Ytljooldjcefkoaa
open Go.RowKit Kit
theorem okF_all : ∀ (l p : List Sl), okF p l = true → ∀ s ∈ l, slotOk s = true
  | [], _, _, _, h => by cases h
  | x :: r, p, h, s, hs => by
    rw [okF, Bool.and_eq_true, Bool.and_eq_true] at h
    rcases List.mem_cons.1 hs with rfl | hs
    · exact h.1.1
    · exact okF_all r _ h.2 s hs
theorem RD.of_ok {xs ys : List Bool} {is : List Ino} {bs : List Blk} (h : diskOk xs ys is bs = true) : RD is bs := by
  unfold diskOk at h
  simp only [Bool.and_eq_true, decide_eq_true_eq] at h
  obtain ⟨⟨-, h1, h2⟩, h3, h4⟩ := h
  have hi : ∀ q ∈ is, inoOk q = true := List.all_eq_true.1 h1
  have hb : ∀ q ∈ bs, blkOk q = true := List.all_eq_true.1 h3
  have hi2 : ∀ q ∈ is, ∃ a b, q.2.2 = [a, b] ∧ okR q.1 q.2.1 a b = true := fun q hq => by
    have := hi q hq
    unfold inoOk at this
    obtain ⟨k, l, ps⟩ := q
    match ps, this with
    | [a, b], h => exact ⟨a, b, rfl, h⟩
    | [], h => cases h
    | [_], h => cases h
    | _ :: _ :: _ :: _, h => cases h
  have hb2 : ∀ q ∈ bs, (q.1 = true → q.2.2.size = 0 ∧ slotsOk q.2.1 = true) ∧ (q.1 = false → q.2.1.length = 0 ∧ q.2.2.size ≤ 16) := fun q hq => by
    have := hb q hq
    unfold blkOk blockOk at this
    constructor
    · intro e; rw [e] at this; simpa using this
    · intro e; rw [e] at this; simpa using this
  refine ⟨h2, h4, fun q hq => ?_, fun q hq => ?_, fun q hq => ?_, fun q hq e => ?_, fun q hq s hs => ?_, fun q hq => ?_⟩
  · obtain ⟨a, b, -, h⟩ := hi2 q hq
    have := of_decide_eq_true h
    omega
  · obtain ⟨a, b, e, -⟩ := hi2 q hq
    rw [e]; rfl
  · cases e : q.1 with
    | true =>
      have := (hb2 q hq).1 e
      unfold slotsOk at this
      simp only [Bool.and_eq_true, decide_eq_true_eq] at this
      omega
    | false => have := (hb2 q hq).2 e; omega
  · exact List.length_eq_zero_iff.1 ((hb2 q hq).2 e).1
  · cases e : q.1 with
    | true =>
      have := ((hb2 q hq).1 e).2
      unfold slotsOk at this
      rw [Bool.and_eq_true] at this
      have := okF_all _ _ this.2 s hs
      rcases of_decide_eq_true this with h | h
      · exact .inl (size_zero h.1)
      · exact .inr h.1
    | false =>
      have := List.length_eq_zero_iff.1 ((hb2 q hq).2 e).1
      rw [this] at hs; cases hs
  · cases e : q.1 with
    | true => have := (hb2 q hq).1 e; omega
    | false => exact ((hb2 q hq).2 e).2
end Go.Proofs.Ytljooldjcefkoaa
/- impl.UnitOfIno, UnitOfBlock, hasIno, hasBlock, isNode by their contracts, at right disks. -/
namespace Go.Proofs.Ytljooldjcefkoaa
open Go.RowKit Kit
set_option maxHeartbeats 800000 in
theorem unitI_any (i : Int) (w : World) :
    Calls Try.prog 81 #[.int .i64 i] w fun e w' => ∃ r : Int, e = .returned (.int .i64 r) ∧ decide (0 ≤ r) = inB i 1 8 ∧ w' = w := by
  cases hb : inB i 1 8 with
  | false =>
    rcases inB_false hb with h | h
    · have h2 : decide (i < 1) = true := by simp; omega
      go_enter Try.func81, Try.ntmps81
      go_wp2
      go_ret
      exact ⟨-1, rfl, by decide, rfl⟩
    · have h1 : decide (i < 1) = false := by simp; omega
      have h2 : decide (8 < i) = true := by simp; omega
      go_enter Try.func81, Try.ntmps81
      go_wp2
      go_ret
      exact ⟨-1, rfl, by decide, rfl⟩
  | true =>
    obtain ⟨h0, h1⟩ := inB_true hb
    have h2 : decide (i < 1) = false := by simp; omega
    have h3 : decide (8 < i) = false := by simp; omega
    go_enter Try.func81, Try.ntmps81
    go_wp2
    go_ret
    refine ⟨_, rfl, ?_, rfl⟩
    simp
    omega
set_option maxHeartbeats 800000 in
theorem unitB_any (i : Int) (w : World) :
    Calls Try.prog 88 #[.int .i64 i] w fun e w' => ∃ r : Int, e = .returned (.int .i64 r) ∧ decide (0 ≤ r) = inB i 1 16 ∧ w' = w := by
  cases hb : inB i 1 16 with
  | false =>
    rcases inB_false hb with h | h
    · have h2 : decide (i < 1) = true := by simp; omega
      go_enter Try.func88, Try.ntmps88
      go_wp2
      go_ret
      exact ⟨-1, rfl, by decide, rfl⟩
    · have h1 : decide (i < 1) = false := by simp; omega
      have h2 : decide (16 < i) = true := by simp; omega
      go_enter Try.func88, Try.ntmps88
      go_wp2
      go_ret
      exact ⟨-1, rfl, by decide, rfl⟩
  | true =>
    obtain ⟨h0, h1⟩ := inB_true hb
    have h2 : decide (i < 1) = false := by simp; omega
    have h3 : decide (16 < i) = false := by simp; omega
    go_enter Try.func88, Try.ntmps88
    go_wp2
    go_ret
    refine ⟨_, rfl, ?_, rfl⟩
    simp
    omega
set_option maxHeartbeats 800000 in
theorem hasI_any (i : Int) (dx dy bv : Value) (a3 : Option Addr) (c3 : Nat) (w : World) :
    Calls Try.prog 71 #[.agg #[dx, dy, .slice a3 8 c3, bv], .int .i64 i] w fun e w' => e = .returned (.bool (inB i 1 8)) ∧ w' = w.alloc (.cells #[dx, dy, .slice a3 8 c3, bv] 36) := by
  have CU := hide (fun W => unitI_any i W)
  cases hb : inB i 1 8 with
  | false =>
    rw [hb] at CU
    go_enter Try.func71, Try.ntmps71
    go_wp2_with fail
    refine (CU.out _).mono ?_
    rintro e w1 ⟨r, rfl, hr, rfl⟩
    go_wp2
    go_ret
    exact ⟨rfl, rfl⟩
  | true =>
    rw [hb] at CU
    obtain ⟨h0, h1⟩ := inB_true hb
    have h2 : decide (i ≤ 8) = true := by simp; omega
    go_enter Try.func71, Try.ntmps71
    go_wp2_with fail
    refine (CU.out _).mono ?_
    rintro e w1 ⟨r, rfl, hr, rfl⟩
    go_wp2
    go_ret
    exact ⟨rfl, rfl⟩
set_option maxHeartbeats 800000 in
theorem hasB_any (i : Int) (dx dy iv : Value) (a3 : Option Addr) (c3 : Nat) (w : World) :
    Calls Try.prog 82 #[.agg #[dx, dy, iv, .slice a3 16 c3], .int .i64 i] w fun e w' => e = .returned (.bool (inB i 1 16)) ∧ w' = w.alloc (.cells #[dx, dy, iv, .slice a3 16 c3] 36) := by
  have CU := hide (fun W => unitB_any i W)
  cases hb : inB i 1 16 with
  | false =>
    rw [hb] at CU
    go_enter Try.func82, Try.ntmps82
    go_wp2_with fail
    refine (CU.out _).mono ?_
    rintro e w1 ⟨r, rfl, hr, rfl⟩
    go_wp2
    go_ret
    exact ⟨rfl, rfl⟩
  | true =>
    rw [hb] at CU
    obtain ⟨h0, h1⟩ := inB_true hb
    have h2 : decide (i ≤ 16) = true := by simp; omega
    go_enter Try.func82, Try.ntmps82
    go_wp2_with fail
    refine (CU.out _).mono ?_
    rintro e w1 ⟨r, rfl, hr, rfl⟩
    go_wp2
    go_ret
    exact ⟨rfl, rfl⟩
set_option maxHeartbeats 1600000 in
theorem kindI_any (i : Int) (dx dy iv bv : Value) (xs ys : List Bool) (is : List Ino) (bs : List Blk) (w : World) (h : DR w dx dy iv bv xs ys is bs) (hR : RD is bs) :
    Calls Try.prog 51 #[.agg #[dx, dy, iv, bv], .int .i64 i] w fun e w' => e = .returned (.int .i64 (kindAt is i)) ∧ Below w.heap.size w w' := by
  obtain ⟨a3, c3, rfl, -, hc⟩ := h.i
  have h8 := hR.hi
  have HB0 : Hid (∀ A B, Below w.heap.size w ((w.alloc (.cells A 36)).alloc (.cells B 36))) := fun A B => ((Below.refl _ w).alloc (Nat.le_refl _) _).alloc (by simp) _
  have CH := hide (fun W => hasI_any i dx dy bv a3 c3 W)
  cases hb : inB i 1 8 with
  | false =>
    rw [hb] at CH
    have e0 : kindAt is i = 0 := kindAt_out (by rw [h8]; exact hb)
    rw [e0, h8]
    clear hc h hR hb
    go_enter Try.func51, Try.ntmps51
    go_wp2_with fail
    refine (CH.out _).mono ?_
    rintro e w1 ⟨rfl, rfl⟩
    go_wp2
    go_ret
    exact ⟨rfl, HB0.out _ _⟩
  | true =>
    rw [hb] at CH
    obtain ⟨h1, h2⟩ := inB_true hb
    obtain ⟨j, rfl⟩ : ∃ j : Nat, i = (j : Int) + 1 := ⟨(i - 1).toNat, by omega⟩
    have hj : j < is.length := by omega
    obtain ⟨g2, o2, ⟨t0, t1, t2⟩, rfl, hg2, r0, r1, r2, e0, e1, rr⟩ := hc j hj
    rw [(kindAt_in hj).1]
    obtain ⟨⟨kd, ln, ps⟩, hX⟩ : ∃ X, is[j] = X := ⟨_, rfl⟩
    rw [hX] at e0 e1 rr ⊢
    simp only at e0 e1 rr r0 r1 r2 ⊢
    subst e0 e1
    have hwj : IntKind.i64.wrap (j : Int) = (j : Int) := wrap_small _ (by omega) (by omega)
    have j0 : (0 : Int) ≤ (j : Int) := by omega
    have j1 : (j : Int) < 8 := by omega
    have y0 : ((w.alloc (.cells #[dx, dy, .slice (some ⟨g2, o2, none⟩) 8 c3, bv] 36)).alloc (.cells #[dx, dy, .slice (some ⟨g2, o2, none⟩) 8 c3, bv] 36)).cell? ⟨g2, o2 + j * 3, none⟩ = some (.int .i64 kd) := ((HB0.out _ _).cell (p := ⟨g2, o2 + j * 3, none⟩) hg2).trans r0
    rw [h8]
    clear hc h hR hb h1 h2 hX rr r0 r1 r2 h8
    go_enter Try.func51, Try.ntmps51
    go_wp2_with fail
    refine (CH.out _).mono ?_
    rintro e w1 ⟨rfl, rfl⟩
    go_wp2
    go_ret
    exact ⟨rfl, HB0.out _ _⟩
set_option maxHeartbeats 1600000 in
theorem isNode_any (i : Int) (dx dy iv bv : Value) (xs ys : List Bool) (is : List Ino) (bs : List Blk) (w : World) (h : DR w dx dy iv bv xs ys is bs) (hR : RD is bs) :
    Calls Try.prog 24 #[.agg #[dx, dy, iv, bv], .int .i64 i] w fun e w' => e = .returned (.bool (decide (¬ kindAt is i = 0))) ∧ Below w.heap.size w w' := by
  have CK := hide (kindI_any i dx dy iv bv xs ys is bs (w.alloc (.cells #[dx, dy, iv, bv] 36)) (h.alloc _) hR)
  have HB : Hid (∀ w1, Below (w.alloc (.cells #[dx, dy, iv, bv] 36)).heap.size (w.alloc (.cells #[dx, dy, iv, bv] 36)) w1 → Below w.heap.size w w1) := fun w1 b => ((Below.refl _ w).alloc (Nat.le_refl _) _).trans (b.mono (by simp))
  obtain ⟨a1, c1, a2, c2, a3, c3, a4, c4, rfl, rfl, rfl, rfl⟩ := h.form
  have hk3 := hR.kind i
  obtain ⟨kd, hkd⟩ : ∃ k, kindAt is i = k := ⟨_, rfl⟩
  rw [hkd] at hk3 CK ⊢
  clear h hR hkd
  rcases hk3 with rfl | rfl | rfl
  all_goals
    go_enter Try.func24, Try.ntmps24
    go_wp2_with fail
    refine CK.out.mono ?_
    rintro e w1 ⟨rfl, B1⟩
    have HB1 := hide (HB.out _ B1)
    clear B1
    go_wp2
    go_ret
    exact ⟨rfl, HB1.out⟩
end Go.Proofs.Ytljooldjcefkoaa
