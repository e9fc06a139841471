/- Texts of the proof, bundled: Os, Nv, Bl, Cs, Sm, Ta, Sn, Mt, Rs, Ls. -/
import Derived.Deep.DeepCutAuto
import Derived.Deep.CutRange
import Derived.BigRegion
import Derived.RegionTactic
import Derived.Deep.RegionWith
import Derived.BigQuiet
import Derived.Test.YtbebgnknjoclkaaGreatU03
import Derived.Test.YtbebgnknjoclkaaGreatU01
import Derived.Test.YtbebgnknjoclkaaGreatU02
/- What is there while the specification mends: the answer under way in its box. No Go function is spoken of. -/
namespace Go.Proofs.YtbebgnknjoclkaaGreat
open Go.RowKit Kit
/-- The answer under way. -/
structure OS (w wr : World) (b n0 : Nat) (A : Array Value) (u v iv bv : Value) (ti tb : List V3) (xs ys : List Bool) (is : List Ino) (bs : List Blk) : Prop where
  d : DL wr (fun k => (w.heap.size + 2 ≤ k ∧ k ≠ b) ∧ k < n0) u v iv bv ti tb xs ys is bs
  o : AtC wr b 34 #[u, v, iv, bv]
  r : AtC wr (w.heap.size + 1) 34 noD
  a : AtC wr w.heap.size 34 A
  c : Below w.heap.size w wr
  bn : b < n0
  Bn : w.heap.size + 2 ≤ b
  nn : n0 ≤ wr.heap.size
namespace OS
variable {w wr wr' : World} {b n0 : Nat} {A : Array Value} {u v iv bv : Value} {ti tb : List V3} {xs ys : List Bool} {is : List Ino} {bs : List Blk}
theorem below (h : OS w wr b n0 A u v iv bv ti tb xs ys is bs) (hb : Below wr.heap.size wr wr') : OS w wr' b n0 A u v iv bv ti tb xs ys is bs :=
  ⟨h.d.over hb, h.o.over hb, h.r.over hb, h.a.over hb, h.c.trans (hb.mono h.c.size), h.bn, h.Bn, Nat.le_trans h.nn hb.size⟩
theorem grown (h : OS w wr b n0 A u v iv bv ti tb xs ys is bs) {row : Option Nat} (hg : wr.grownBy wr' row) (hr : ∀ k, row = some k → n0 ≤ k) : OS w wr' b n0 A u v iv bv ti tb xs ys is bs := by
  have hb := h.bn
  have hB := h.Bn
  have hn := h.nn
  exact ⟨h.d.of_heap fun k hk hl => hg.block k hl (fun e => by have := hr k e.symm; omega), h.o.grown hg (fun e => by have := hr _ e; omega), h.r.grown hg (fun e => by have := hr _ e; omega), h.a.grown hg (fun e => by have := hr _ e; omega), h.c.grown hg h.c.size (fun k hk => by have := hr k hk; omega), h.bn, h.Bn, Nat.le_trans h.nn hg.size⟩
theorem ptr (h : OS w wr b n0 A u v iv bv ti tb xs ys is bs) (j : Nat) (hj : j < is.length) {g c : Nat} (hv : (ti.getD j zI3).2.2 = .slice (some ⟨g, 0, none⟩) is[j].2.2.length c) (k : Nat) :
    OS w (wr.setCell ⟨g, k, none⟩ (.int .i64 0)) b n0 A u v iv bv ti tb xs ys (is.set j (is[j].1, is[j].2.1, is[j].2.2.set k 0)) bs ∧ g < n0 ∧ w.heap.size + 2 ≤ g ∧ g ≠ b := by
  obtain ⟨g', c', -, -, -, -, -, -, -, ro, hS⟩ := h.d.ino j hj
  have hg := hS g (by rw [hv]; rfl)
  obtain ⟨q1, q2⟩ := h.d.setPtr j hj hv k 0
  exact ⟨⟨q1, h.o.other (fun e => hg.1.2 e.symm) _, h.r.other (by omega) _, h.a.other (by omega) _, h.c.setCell (p := ⟨g, k, none⟩) (by show _ ≤ g; omega) _, h.bn, h.Bn, by have := h.nn; simpa using this⟩, hg.2, hg.1.1, hg.1.2⟩
theorem clr (h : OS w wr b n0 A u v iv bv ti tb xs ys is bs) (j : Nat) (hj : j < bs.length) {g c : Nat} (hv : (tb.getD j zB3).2.1 = .slice (some ⟨g, 0, none⟩) bs[j].2.1.length c) (s : Nat) (hs : s < bs[j].2.1.length) :
    OS w ((wr.setCell ⟨g, s * 2, none⟩ (.string ⟨#[]⟩)).setCell ⟨g, s * 2 + 1, none⟩ (.int .i64 0)) b n0 A u v iv bv ti tb xs ys is (bs.set j (bs[j].1, bs[j].2.1.set s (⟨#[]⟩, 0), bs[j].2.2)) ∧ g < n0 ∧ w.heap.size + 2 ≤ g ∧ g ≠ b := by
  obtain ⟨g', c', -, -, -, -, -, -, ro, hS⟩ := h.d.blk j hj
  have hg := hS g (by rw [hv]; rfl)
  obtain ⟨q1, q2⟩ := h.d.clrSlot j hj hv s hs ⟨#[]⟩ 0
  exact ⟨⟨q1, (h.o.other (fun e => hg.1.2 e.symm) _).other (fun e => hg.1.2 e.symm) _, (h.r.other (by omega) _).other (by omega) _, (h.a.other (by omega) _).other (by omega) _, (h.c.setCell (p := ⟨g, s * 2, none⟩) (by show _ ≤ g; omega) _).setCell (p := ⟨g, s * 2 + 1, none⟩) (by show _ ≤ g; omega) _, h.bn, h.Bn, by have := h.nn; simpa using this⟩, hg.2, hg.1.1, hg.1.2⟩
/-- It is handed back. -/
theorem fin (h : OS w wr b n0 A u v iv bv ti tb xs ys is bs) (y0 y1 y2 y3 : Value) :
    DO ((((wr.setCell ⟨w.heap.size + 1, 0, none⟩ y0).setCell ⟨w.heap.size + 1, 1, none⟩ y1).setCell ⟨w.heap.size + 1, 2, none⟩ y2).setCell ⟨w.heap.size + 1, 3, none⟩ y3) (fun k => w.heap.size ≤ k) u v iv bv xs ys is bs ∧ Below w.heap.size w ((((wr.setCell ⟨w.heap.size + 1, 0, none⟩ y0).setCell ⟨w.heap.size + 1, 1, none⟩ y1).setCell ⟨w.heap.size + 1, 2, none⟩ y2).setCell ⟨w.heap.size + 1, 3, none⟩ y3) :=
  ⟨(((((h.d.other (fun e => by omega) _).other (fun e => by omega) _).other (fun e => by omega) _).other (fun e => by omega) _).do_).mono fun k hk => by omega, (((h.c.setCell (by simp) _).setCell (by simp) _).setCell (by simp) _).setCell (by simp) _⟩
end OS
end Go.Proofs.YtbebgnknjoclkaaGreat
/- What is there while the specification mends names. No Go function is spoken of. -/
namespace Go.Proofs.YtbebgnknjoclkaaGreat
open Go.RowKit Kit
def tx (l : List ByteArray) : List Value := l.map Value.string
theorem tx_length (l : List ByteArray) : (tx l).length = l.length := List.length_map _
theorem tx_rtx {w : World} {base : Nat} {v : Value} {l : List ByteArray} (h : ROwns w base 9 v (tx l)) : RTx w v l := by
  obtain ⟨a, c, e, hn⟩ := h.form
  rw [tx_length] at e
  refine ⟨a, c, e, fun j hj => ?_⟩
  obtain ⟨g, cap, e1, k1, -, -, h1, -⟩ := h.at j (by rw [tx_length]; exact hj)
  rw [e] at e1
  simp only [Value.slice.injEq] at e1
  exact ⟨g, 0, e1.1, h1, by rw [Nat.zero_add, k1]; simp [tx, hj]⟩
abbrev Bx := Nat × TypeId × Array Value
/-- Which block is one of the lists'. -/
def own3 (a b c : Value) (i : Nat) : Prop := a.ownBlock = some i ∨ b.ownBlock = some i ∨ c.ownBlock = some i
/-- The answer under way, three lists, and boxes. -/
structure NV (w wr : World) (b n0 : Nat) (A : Array Value) (u v iv bv : Value) (ti tb : List V3) (xs ys : List Bool) (is : List Ino) (bs : List Blk) (dv kv nv : Value) (dirs blks : List Int) (names : List ByteArray) (BX : List Bx) : Prop where
  os : OS w wr b n0 A u v iv bv ti tb xs ys is bs
  d : ROwns wr n0 3 dv (ic dirs)
  k : ROwns wr n0 3 kv (ic blks)
  n : ROwns wr n0 9 nv (tx names)
  dk : ∀ i, dv.ownBlock = some i → kv.ownBlock ≠ some i
  dn : ∀ i, dv.ownBlock = some i → nv.ownBlock ≠ some i
  kn : ∀ i, kv.ownBlock = some i → nv.ownBlock ≠ some i
  bx : ∀ e ∈ BX, AtC wr e.1 e.2.1 e.2.2 ∧ n0 ≤ e.1 ∧ ∀ i, own3 dv kv nv i → i ≠ e.1
namespace NV
variable {w wr wr' : World} {b n0 : Nat} {A : Array Value} {u v iv bv : Value} {ti tb : List V3} {xs ys : List Bool} {is : List Ino} {bs bs' : List Blk} {dv kv nv v9 : Value} {dirs blks : List Int} {names : List ByteArray} {BX BX' : List Bx}
theorem lt3 (h : NV w wr b n0 A u v iv bv ti tb xs ys is bs dv kv nv dirs blks names BX) {i : Nat} (hi : own3 dv kv nv i) : n0 ≤ i ∧ i < wr.heap.size := by
  rcases hi with e | e | e
  · exact h.d.lt i e
  · exact h.k.lt i e
  · exact h.n.lt i e
theorem below (h : NV w wr b n0 A u v iv bv ti tb xs ys is bs dv kv nv dirs blks names BX) (hb : Below wr.heap.size wr wr') : NV w wr' b n0 A u v iv bv ti tb xs ys is bs dv kv nv dirs blks names BX :=
  ⟨h.os.below hb, h.d.below hb (Nat.le_refl _), h.k.below hb (Nat.le_refl _), h.n.below hb (Nat.le_refl _), h.dk, h.dn, h.kn, fun e he => ⟨(h.bx e he).1.over hb, (h.bx e he).2⟩⟩
theorem less (h : NV w wr b n0 A u v iv bv ti tb xs ys is bs dv kv nv dirs blks names BX) (hb : ∀ e ∈ BX', e ∈ BX) : NV w wr b n0 A u v iv bv ti tb xs ys is bs dv kv nv dirs blks names BX' := ⟨h.os, h.d, h.k, h.n, h.dk, h.dn, h.kn, fun e he => h.bx e (hb e he)⟩
theorem box (h : NV w wr b n0 A u v iv bv ti tb xs ys is bs dv kv nv dirs blks names BX) (hb : Below wr.heap.size wr wr') {g : Nat} {T : TypeId} {Y : Array Value} (ha : AtC wr' g T Y) (hg : wr.heap.size ≤ g) : NV w wr' b n0 A u v iv bv ti tb xs ys is bs dv kv nv dirs blks names ((g, T, Y) :: BX) := by
  have h1 := h.below hb
  refine ⟨h1.os, h1.d, h1.k, h1.n, h1.dk, h1.dn, h1.kn, fun e he => ?_⟩
  rcases List.mem_cons.1 he with rfl | he
  · refine ⟨ha, Nat.le_trans h.os.nn hg, fun i hi e => ?_⟩
    have := (h.lt3 hi).2
    simp only at e
    omega
  · exact h1.bx e he
theorem names0 (h : NV w wr b n0 A u v iv bv ti tb xs ys is bs dv kv nv dirs blks names BX) : NV w (wr.alloc (.cells #[] 9)) b n0 A u v iv bv ti tb xs ys is bs dv kv (.slice (some ⟨wr.heap.size, 0, none⟩) 0 0) dirs blks [] BX := by
  have h1 := h.below ((Below.refl _ wr).alloc (Nat.le_refl _) (.cells #[] 9))
  have ho : ∀ i, (Value.slice (some ⟨wr.heap.size, 0, none⟩) 0 0).ownBlock = some i → i = wr.heap.size := fun i e => by simpa [Value.ownBlock] using e.symm
  refine ⟨h1.os, h1.d, h1.k, (ROwns.lit0 wr n0 9 h.os.nn), h1.dk, fun i e e2 => ?_, fun i e e2 => ?_, fun e he => ⟨(h1.bx e he).1, (h1.bx e he).2.1, fun i hi e3 => ?_⟩⟩
  · have := (h.d.lt i e).2; have := ho i e2; omega
  · have := (h.k.lt i e).2; have := ho i e2; omega
  · rcases hi with e | e | e
    · exact (h.bx _ he).2.2 i (.inl e) e3
    · exact (h.bx _ he).2.2 i (.inr (.inl e)) e3
    · have h2 := ho i e
      have := (h.bx _ he).1.lt
      omega
theorem clr (h : NV w wr b n0 A u v iv bv ti tb xs ys is bs dv kv nv dirs blks names BX) (t : Tt) (ht : InT bs t) {g : Nat} {c : Nat} (hv : (tb.getD t.2.1 zB3).2.1 = .slice (some ⟨g, 0, none⟩) (bs.getD t.2.1 zB).2.1.length c) : NV w ((wr.setCell ⟨g, t.2.2 * 2, none⟩ (.string ⟨#[]⟩)).setCell ⟨g, t.2.2 * 2 + 1, none⟩ (.int .i64 0)) b n0 A u v iv bv ti tb xs ys is (clrS bs t) dv kv nv dirs blks names BX := by
  have e0 := getD_in (d := zB) ht.1
  have hs := ht.2
  rw [e0] at hv hs
  obtain ⟨q1, q2, q3, q4⟩ := h.os.clr t.2.1 ht.1 hv t.2.2 hs
  refine ⟨?_, (h.d.setCell_other q2 _).setCell_other q2 _, (h.k.setCell_other q2 _).setCell_other q2 _, (h.n.setCell_other q2 _).setCell_other q2 _, h.dk, h.dn, h.kn, fun e he => ⟨((h.bx e he).1.other (by have := (h.bx e he).2.1; omega) _).other (by have := (h.bx e he).2.1; omega) _, (h.bx e he).2⟩⟩
  unfold clrS
  rw [e0]
  exact q1
theorem appD (h : NV w wr b n0 A u v iv bv ti tb xs ys is bs dv kv nv dirs blks names BX) {z : Int} (T9 : ROwns wr' n0 3 v9 (ic (dirs ++ [z]))) (G9 : wr.grownBy wr' dv.ownBlock) (V9 : ∀ i, v9.ownBlock = some i → dv.ownBlock = some i ∨ wr.heap.size ≤ i) : NV w wr' b n0 A u v iv bv ti tb xs ys is bs v9 kv nv (dirs ++ [z]) blks names BX := by
  refine ⟨h.os.grown G9 fun i e => (h.d.lt i e).1, T9, h.k.grown G9 fun i e e2 => h.dk i e2 e, h.n.grown G9 fun i e e2 => h.dn i e2 e, fun i e e2 => ?_, fun i e e2 => ?_, h.kn, fun x he => ⟨(h.bx x he).1.grown G9 fun e => (h.bx x he).2.2 _ (.inl e) rfl, (h.bx x he).2.1, fun i hi e3 => ?_⟩⟩
  · rcases V9 i e with e' | e'
    · exact h.dk i e' e2
    · have := (h.k.lt i e2).2; omega
  · rcases V9 i e with e' | e'
    · exact h.dn i e' e2
    · have := (h.n.lt i e2).2; omega
  · rcases hi with e | e
    · rcases V9 i e with e' | e'
      · exact (h.bx x he).2.2 i (.inl e') e3
      · have := (h.bx x he).1.lt; omega
    · exact (h.bx x he).2.2 i (.inr e) e3
theorem appK (h : NV w wr b n0 A u v iv bv ti tb xs ys is bs dv kv nv dirs blks names BX) {z : Int} (T9 : ROwns wr' n0 3 v9 (ic (blks ++ [z]))) (G9 : wr.grownBy wr' kv.ownBlock) (V9 : ∀ i, v9.ownBlock = some i → kv.ownBlock = some i ∨ wr.heap.size ≤ i) : NV w wr' b n0 A u v iv bv ti tb xs ys is bs dv v9 nv dirs (blks ++ [z]) names BX := by
  refine ⟨h.os.grown G9 fun i e => (h.k.lt i e).1, h.d.grown G9 fun i e e2 => h.dk i e e2, T9, h.n.grown G9 fun i e e2 => h.kn i e2 e, fun i e e2 => ?_, h.dn, fun i e e2 => ?_, fun x he => ⟨(h.bx x he).1.grown G9 fun e => (h.bx x he).2.2 _ (.inr (.inl e)) rfl, (h.bx x he).2.1, fun i hi e3 => ?_⟩⟩
  · rcases V9 i e2 with e' | e'
    · exact h.dk i e e'
    · have := (h.d.lt i e).2; omega
  · rcases V9 i e with e' | e'
    · exact h.kn i e' e2
    · have := (h.n.lt i e2).2; omega
  · rcases hi with e | e | e
    · exact (h.bx x he).2.2 i (.inl e) e3
    · rcases V9 i e with e' | e'
      · exact (h.bx x he).2.2 i (.inr (.inl e')) e3
      · have := (h.bx x he).1.lt; omega
    · exact (h.bx x he).2.2 i (.inr (.inr e)) e3
theorem appN (h : NV w wr b n0 A u v iv bv ti tb xs ys is bs dv kv nv dirs blks names BX) {z : ByteArray} (T9 : ROwns wr' n0 9 v9 (tx (names ++ [z]))) (G9 : wr.grownBy wr' nv.ownBlock) (V9 : ∀ i, v9.ownBlock = some i → nv.ownBlock = some i ∨ wr.heap.size ≤ i) : NV w wr' b n0 A u v iv bv ti tb xs ys is bs dv kv v9 dirs blks (names ++ [z]) BX := by
  refine ⟨h.os.grown G9 fun i e => (h.n.lt i e).1, h.d.grown G9 fun i e e2 => h.dn i e e2, h.k.grown G9 fun i e e2 => h.kn i e e2, T9, h.dk, fun i e e2 => ?_, fun i e e2 => ?_, fun x he => ⟨(h.bx x he).1.grown G9 fun e => (h.bx x he).2.2 _ (.inr (.inr e)) rfl, (h.bx x he).2.1, fun i hi e3 => ?_⟩⟩
  · rcases V9 i e2 with e' | e'
    · exact h.dn i e e'
    · have := (h.d.lt i e).2; omega
  · rcases V9 i e2 with e' | e'
    · exact h.kn i e e'
    · have := (h.k.lt i e).2; omega
  · rcases hi with e | e | e
    · exact (h.bx x he).2.2 i (.inl e) e3
    · exact (h.bx x he).2.2 i (.inr (.inl e)) e3
    · rcases V9 i e with e' | e'
      · exact (h.bx x he).2.2 i (.inr (.inr e')) e3
      · have := (h.bx x he).1.lt; omega
end NV
end Go.Proofs.YtbebgnknjoclkaaGreat
/- Of the specification: l11Block by its contract, of a disk whose layout is told. -/
namespace Go.Proofs.YtbebgnknjoclkaaGreat
open Go.RowKit Kit
/-- The slots of a block, as a slice. -/
def slv (tb : List V3) (bs : List Blk) (x : Int) : Value := if inB x 1 bs.length = true then (tb.getD (x - 1).toNat zB3).2.1 else .slice none 0 0
set_option maxRecDepth 100000 in
set_option maxHeartbeats 1600000 in
theorem blkL_any (x : Int) (u v iv bv : Value) (ti tb : List V3) (xs ys : List Bool) (is : List Ino) (bs : List Blk) (S : Nat → Prop) (w : World) (h : DL w S u v iv bv ti tb xs ys is bs) (hl : bs.length = 16) :
    Calls Tryz.prog 41 #[.agg #[u, v, iv, bv], .int .i64 x] w fun e w' => e = .returned (.tuple #[.agg #[.bool (blkAt bs x).1, slv tb bs x, .string (blkAt bs x).2.2], .bool (inB x 1 16)]) ∧ Below w.heap.size w w' := by
  have HB : Hid (∀ A, Below w.heap.size w (((w.alloc (.cells A 34)).alloc (.cells #[.bool false, .slice none 0 0, .string ⟨#[]⟩] 70)))) := fun A => ((Below.refl _ w).alloc (Nat.le_refl _) _).alloc (by simp) _
  cases hb : inB x 1 16 with
  | false =>
    have hb' : inB x 1 bs.length = false := by rw [hl]; exact hb
    obtain ⟨g4, c4, hbv, -⟩ := h.blk 0 (by omega)
    subst hbv
    have HX := hide hb'
    have e0 : blkAt bs x = (false, [], ⟨#[]⟩) := by unfold blkAt; rw [hb']; rfl
    have e1 : slv tb bs x = .slice none 0 0 := by unfold slv; rw [hb']; rfl
    rw [e0, e1]
    clear hb hb' e0 e1 hl h
    go_enter Tryz.func41, Tryz.ntmps41
    go_wp2_with fail
    refine (l01In_any x 1 _ _).mono ?_
    rintro e w1 ⟨rfl, rfl⟩
    rw [HX.out]
    go_wp2
    refine bodyPost_ret (v := .tuple #[.agg #[.bool false, .slice none 0 0, .string ⟨#[]⟩], .bool false]) (by simp [results, go_sem]) rfl ⟨rfl, ?_⟩
    exact HB.out _
  | true =>
    have hb' : inB x 1 bs.length = true := by rw [hl]; exact hb
    have HX := hide hb'
    obtain ⟨h1, h2⟩ := inB_true hb
    obtain ⟨j, rfl⟩ : ∃ j : Nat, x = (j : Int) + 1 := ⟨(x - 1).toNat, by omega⟩
    have hj : j < bs.length := by omega
    have e0 : blkAt bs ((j : Int) + 1) = bs[j] := by
      unfold blkAt
      rw [hb', if_pos rfl, show ((j : Int) + 1 - 1).toNat = j by omega]
      simp [hj]
    have e1 : slv tb bs ((j : Int) + 1) = (tb.getD j zB3).2.1 := by
      unfold slv
      rw [hb', if_pos rfl, show ((j : Int) + 1 - 1).toNat = j by omega]
    rw [e0, e1]
    clear hb hb' e0 e1
    obtain ⟨g, c4, hbv, hg, -, k0, k1, k2, ro, -⟩ := h.blk j hj
    subst hbv
    obtain ⟨pa, pc, esl, -⟩ := ro.form
    rw [esl] at k1 ⊢
    generalize bs[j].1 = d at *
    generalize bs[j].2.2 = tx at *
    generalize bs[j].2.1.length = sn at *
    have HB2 : Hid (∀ (A B : Array Value), Below w.heap.size w ((w.alloc (.cells A 34)).alloc (.cells B 70))) := fun A B => ((Below.refl _ w).alloc (Nat.le_refl _) _).alloc (by simp) _
    have n0 : ((w.alloc (.cells #[u, v, iv, .slice (some ⟨g, 0, none⟩) bs.length c4] 34)).alloc (.cells #[.bool false, .slice none 0 0, .string ⟨#[]⟩] 70)).cell? ⟨g, j * 3, none⟩ = some (.bool d) := ((HB.out _).cell (p := ⟨g, j * 3, none⟩) hg).trans k0
    have n1 : ((w.alloc (.cells #[u, v, iv, .slice (some ⟨g, 0, none⟩) bs.length c4] 34)).alloc (.cells #[.bool false, .slice none 0 0, .string ⟨#[]⟩] 70)).cell? ⟨g, j * 3 + 1, none⟩ = some (.slice pa sn pc) := ((HB.out _).cell (p := ⟨g, j * 3 + 1, none⟩) hg).trans k1
    have n2 : ((w.alloc (.cells #[u, v, iv, .slice (some ⟨g, 0, none⟩) bs.length c4] 34)).alloc (.cells #[.bool false, .slice none 0 0, .string ⟨#[]⟩] 70)).cell? ⟨g, j * 3 + 2, none⟩ = some (.string tx) := ((HB.out _).cell (p := ⟨g, j * 3 + 2, none⟩) hg).trans k2
    have j0 : (0 : Int) ≤ (j : Int) := by omega
    have j1 : (j : Int) < (bs.length : Int) := by omega
    clear k0 k1 k2 h ro esl hl
    go_enter Tryz.func41, Tryz.ntmps41
    go_wp2_with fail
    refine (l01In_any _ 1 _ _).mono ?_
    rintro e w1 ⟨rfl, rfl⟩
    rw [HX.out]
    go_wp2
    refine bodyPost_ret (v := .tuple #[.agg #[.bool d, .slice pa sn pc, .string tx], .bool true]) (by simp [results, go_sem]) rfl ⟨rfl, ?_⟩
    exact HB2.out _ _
end Go.Proofs.YtbebgnknjoclkaaGreat
/- A copy of a disk: spec.l07Copy by its contract. -/
namespace Go.Proofs.YtbebgnknjoclkaaGreat
open Go.RowKit Kit
set_option maxRecDepth 100000 in
set_option maxHeartbeats 3200000 in
theorem specCopy_any (u v iv bv : Value) (xs ys : List Bool) (is : List Ino) (bs : List Blk) (w : World) (h : DR w u v iv bv xs ys is bs) (hB : Big 1048576 xs ys is bs) :
    Calls Tryz.prog 34 #[.agg #[u, v, iv, bv]] w fun e w' => ∃ u' v' i' b', e = .returned (.agg #[u', v', i', b']) ∧ DO w' (fun k => w.heap.size ≤ k) u' v' i' b' xs ys is bs ∧ Below w.heap.size w w' := by
  have H := hide h
  have HG := hide hB
  have hil : is.length ≤ 1048576 := hB.i
  have hbl : bs.length ≤ 1048576 := hB.b
  obtain ⟨a1, c1, a2, c2, a3, c3, a4, c4, rfl, rfl, rfl, rfl⟩ := h.form
  clear hB h
  go_enter Tryz.func34, Tryz.ntmps34
  go_wp2_with fail
  refine (copyB_any _ _ xs ys _ ((H.out.a.alloc _).alloc _) ((H.out.b.alloc _).alloc _) HG.out.x HG.out.y).mono ?_
  rintro e w1 ⟨u1, v1, rfl, T1, B1⟩
  obtain ⟨d1, f1, d2, f2, rfl, rfl⟩ := T1.form
  have HD := hide (dz_start (A := #[.slice a1 xs.length c1, .slice a2 ys.length c2, .slice a3 is.length c3, .slice a4 bs.length c4]) B1 T1)
  clear T1 B1
  go_wp2_with fail
  generalize w1.heap.size = b at *
  generalize w1.alloc (.cells #[.slice d1 xs.length f1, .slice d2 ys.length f2, .slice none 0 0, .slice none 0 0] 34) = W1 at *
  go_loopw [4] (fun i wr => ∃ j : Nat, j ≤ is.length ∧ i = .int .i64 j ∧ Hid (∃ iv, Dz w wr #[.slice a1 xs.length c1, .slice a2 ys.length c2, .slice a3 is.length c3, .slice a4 bs.length c4] b (.slice d1 xs.length f1) (.slice d2 ys.length f2) iv (.slice none 0 0) xs ys (is.take j) [])) (fun i _ => is.length - (intOf i).toNat)
  case atStart => exact ⟨0, Nat.zero_le _, rfl, _, HD.out⟩
  case round =>
    obtain ⟨j, hj, rfl, HR⟩ := hrel
    obtain ⟨iv, hds⟩ := HR.out
    by_cases hlt : j < is.length
    · obtain ⟨ti, k1, k2, k3⟩ := hds.drew.appI
      obtain ⟨gi, ci, rfl, -⟩ := k1.form
      obtain ⟨ai, cai, ei, -, hci⟩ := H.out.i.ino
      obtain ⟨g, off, p, rfl, hg, m1, m2, m3, hp⟩ := hci j hlt
      simp only [Value.slice.injEq] at ei
      obtain ⟨rfl, -, rfl⟩ := ei
      have hpl := HG.out.p j hlt
      have htk : is.take j ++ [is[j]] = is.take (j + 1) := List.take_append_getElem hlt
      obtain ⟨X, hX⟩ : ∃ X, is[j] = X := ⟨_, rfl⟩
      obtain ⟨y, s, z⟩ := X
      rw [hX] at m1 m2 hp hpl htk
      simp only at m1 m2 hp hpl
      obtain ⟨pa, pc, rfl⟩ := hp.form
      have hti : ti.length = j := by rw [k2, List.length_take]; omega
      have HX := hide (And.intro k1 (And.intro k3 hti))
      have HDS := hide hds
      have HP : Hid (∀ W, Below w.heap.size w W → RInts W (.slice pa z.length pc) z) := fun W b => hp.below b (Nat.le_refl _)
      have HPL := hide hpl
      have HTK := hide htk
      have HC : Hid (∀ W, Below wr.drew.heap.size wr.drew W → W.cell? ⟨b, 2, none⟩ = some (.slice gi ti.length ci) ∧ W.cell? ⟨w.heap.size, 2, none⟩ = some (.slice (some ⟨g, off, none⟩) is.length c3) ∧ W.cell? ⟨g, off + j * 3, none⟩ = some (.int .i64 y) ∧ W.cell? ⟨g, off + j * 3 + 1, none⟩ = some (.int .i64 s) ∧ W.cell? ⟨g, off + j * 3 + 2, none⟩ = some (.slice pa z.length pc) ∧ Below w.heap.size w W) := fun W b => by
        have hw := HDS.out.drew.below b
        exact ⟨hw.box.cell 2, hw.arg.cell 2, (hw.bel.cell (p := ⟨g, off + j * 3, none⟩) hg).trans m1, (hw.bel.cell (p := ⟨g, off + j * 3 + 1, none⟩) hg).trans m2, (hw.bel.cell (p := ⟨g, off + j * 3 + 2, none⟩) hg).trans m3, hw.bel⟩
      have b0 := HDS.out.arg.cell 2
      simp at b0
      have j0 : (0 : Int) ≤ (j : Int) := by omega
      have j1 : (j : Int) < (is.length : Int) := by omega
      clear k1 k2 k3 hds HR hti m1 m2 m3 hp hpl htk hci hX hg
      go_wp2_with fail
      refine wp_region_frm (by kernel_rfl) [0, 1, 2, 3, 4, 5, 6, 7, 8] [9, 10, 11] (fun i => match i with | 0 => .const [] (.pointer (some ⟨b, 2, none⟩)) | 1 => .const [0] (.slice gi ti.length ci) | 2 => .const [] (.pointer (some ⟨w.heap.size, 2, none⟩)) | 3 => .const [2] (.slice (some ⟨g, off, none⟩) is.length c3) | 4 => .const [] (.int .i64 (j : Int)) | 5 => .const [3, 4] (.pointer (some ⟨g, off + j * 3, none⟩)) | 6 => .const [5] (.agg #[.int .i64 y, .int .i64 s, .slice pa z.length pc]) | 7 => MkI 6 y s z | 8 => MkI1 7 y s | _ => .triv) (fun x => ⟨#[Value.agg #[Value.slice a1 xs.length c1, Value.slice a2 ys.length c2, Value.slice (some { block := g, off := off }) is.length c3, Value.slice a4 bs.length c4], Value.pointer (some { block := w.heap.size, off := 0 }), Value.pointer (some { block := w.heap.size + 1, off := 0 }), Value.pointer (some { block := b, off := 0 }), Value.int IntKind.i64 ↑j, undef, Value.pointer (some { block := w.heap.size, off := 0 }), Value.agg #[Value.slice a1 xs.length c1, Value.slice a2 ys.length c2], Value.agg #[Value.slice d1 xs.length f1, Value.slice d2 ys.length f2], Value.agg #[Value.slice d1 xs.length f1, Value.slice d2 ys.length f2, Value.slice none 0 0, Value.slice none 0 0], Value.int IntKind.i64 ↑j, Value.pointer (some { block := w.heap.size, off := 2 }), Value.slice (some { block := g, off := off }) is.length c3, Value.int IntKind.i64 ↑is.length, Value.bool true, u15, u16, x 0, x 1, x 2, x 3, x 4, x 5, x 6, x 7, x 8, u26, u27, undef, undef, undef, undef, undef, undef, undef, undef, undef, undef, undef, undef, undef, undef, undef, undef, undef, undef, undef], []⟩) (fun i => match i with | 0 => u17 | 1 => u18 | 2 => u19 | 3 => u20 | 4 => u21 | 5 => u22 | 6 => u23 | 7 => u24 | 8 => u25 | _ => undef) rfl (by kernel_rfl) (by kernel_rfl) (by kernel_rfl) rfl ?_ ?_
      · intro jo hj so x iw W hd hp K hK
        simp only [List.mem_cons, List.not_mem_nil, or_false] at hj
        rcases hj with rfl | rfl | rfl | rfl | rfl | rfl | rfl | rfl | rfl
        · refine wpOp_step (o := _) rfl fun K' hK' => ?_
          have HK := hide (fun (v : Value) (W' : World) h1 h2 => hK' _ _ (hK v W' h1 h2))
          simp only [upd, Nat.reduceEqDiff, if_true, if_false] at HK
          clear hK hK' hp hd
          go_simp
          exact HK.out _ _ (Below.refl _ _) rfl
        · refine wpOp_step (o := _) rfl fun K' hK' => ?_
          have HK := hide (fun (v : Value) (W' : World) h1 h2 => hK' _ _ (hK v W' h1 h2))
          simp only [upd, Nat.reduceEqDiff, if_true, if_false] at HK
          have e0 : x 0 = .pointer (some ⟨b, 2, none⟩) := hp.post 0 (hd 0 (show 0 ∈ [0] from by decide))
          have q0 := (HC.out W hp.bel).1
          clear hK hK' hp hd
          simp only [e0] at HK ⊢
          go_simp
          exact HK.out _ _ (Below.refl _ _) rfl
        · refine wpOp_step (o := _) rfl fun K' hK' => ?_
          have HK := hide (fun (v : Value) (W' : World) h1 h2 => hK' _ _ (hK v W' h1 h2))
          simp only [upd, Nat.reduceEqDiff, if_true, if_false] at HK
          clear hK hK' hp hd
          go_simp
          exact HK.out _ _ (Below.refl _ _) rfl
        · refine wpOp_step (o := _) rfl fun K' hK' => ?_
          have HK := hide (fun (v : Value) (W' : World) h1 h2 => hK' _ _ (hK v W' h1 h2))
          simp only [upd, Nat.reduceEqDiff, if_true, if_false] at HK
          have e2 : x 2 = .pointer (some ⟨w.heap.size, 2, none⟩) := hp.post 2 (hd 2 (show 2 ∈ [2] from by decide))
          have q0 := (HC.out W hp.bel).2.1
          clear hK hK' hp hd
          simp only [e2] at HK ⊢
          go_simp
          exact HK.out _ _ (Below.refl _ _) rfl
        · refine wpOp_step (o := _) rfl fun K' hK' => ?_
          have HK := hide (fun (v : Value) (W' : World) h1 h2 => hK' _ _ (hK v W' h1 h2))
          simp only [upd, Nat.reduceEqDiff, if_true, if_false] at HK
          clear hK hK' hp hd
          go_simp
          exact HK.out _ _ (Below.refl _ _) rfl
        · refine wpOp_step (o := _) rfl fun K' hK' => ?_
          have HK := hide (fun (v : Value) (W' : World) h1 h2 => hK' _ _ (hK v W' h1 h2))
          simp only [upd, Nat.reduceEqDiff, if_true, if_false] at HK
          have e3 : x 3 = .slice (some ⟨g, off, none⟩) is.length c3 := hp.post 3 (hd 3 (show 3 ∈ [3, 4] from by decide))
          have e4 : x 4 = .int .i64 (j : Int) := hp.post 4 (hd 4 (show 4 ∈ [3, 4] from by decide))
          clear hK hK' hp hd
          simp only [e3, e4] at HK ⊢
          go_simp
          exact HK.out _ _ (Below.refl _ _) rfl
        · refine wpOp_step (o := _) rfl fun K' hK' => ?_
          have HK := hide (fun (v : Value) (W' : World) h1 h2 => hK' _ _ (hK v W' h1 h2))
          simp only [upd, Nat.reduceEqDiff, if_true, if_false] at HK
          have e5 : x 5 = .pointer (some ⟨g, off + j * 3, none⟩) := hp.post 5 (hd 5 (show 5 ∈ [5] from by decide))
          obtain ⟨-, -, q0, q1, q2, -⟩ := HC.out W hp.bel
          clear hK hK' hp hd
          simp only [e5] at HK ⊢
          go_simp
          exact HK.out _ _ (Below.refl _ _) rfl
        · refine wpOp_step (o := _) rfl fun K' hK' => ?_
          have HK := hide (fun (v : Value) (W' : World) h1 h2 => hK' _ _ (hK v W' h1 h2))
          simp only [upd, Nat.reduceEqDiff, if_true, if_false] at HK
          have e6 : x 6 = .agg #[.int .i64 y, .int .i64 s, .slice pa z.length pc] := hp.post 6 (hd 6 (show 6 ∈ [6] from by decide))
          have bl := (HC.out W hp.bel).2.2.2.2.2
          clear hK hK' hp hd
          simp only [e6] at HK ⊢
          go_simp
          refine (copyI_any y s _ z W (HP.out W bl) HPL.out).mono ?_
          rintro e w6 ⟨p6, rfl, O6, B6⟩
          go_simp
          exact HK.out _ _ B6 ⟨p6, rfl, O6, fun i hi => (O6.lt i hi).2⟩
        · refine wpOp_step (o := _) rfl fun K' hK' => ?_
          have HK := hide (fun (v : Value) (W' : World) h1 h2 => hK' _ _ (hK v W' h1 h2))
          simp only [upd, Nat.reduceEqDiff, if_true, if_false] at HK
          have e7 : ∃ u, x 7 = .agg #[.int .i64 y, .int .i64 s, u] ∧ ROwns W (iw 7).1 3 u (ic z) ∧ ∀ i, u.ownBlock = some i → i < (iw 7).2 := hp.post 7 (hd 7 (show 7 ∈ [7] from by decide))
          clear hK hK' hp hd
          obtain ⟨p7, e7, O7, -⟩ := e7
          obtain ⟨pb, pd, rfl⟩ := O7.rints.form
          clear O7
          have HE := hide e7
          simp only [e7] at HK ⊢
          clear e7
          go_simp
          exact HK.out _ _ ((Below.refl _ W).alloc (Nat.le_refl _) _) ⟨rfl, by simp, .slice pb z.length pd, by rw [upd_ne _ _ _ _ (by decide)]; exact HE.out, AtC.new W 65 _⟩
      · intro x iw W hp
        have e1 : x 1 = .slice gi ti.length ci := hp.post 1 (by decide)
        obtain ⟨p7, e7, O7, -⟩ := hp.post 7 (by decide)
        obtain ⟨e8, -, p8, f8, A8⟩ := hp.post 8 (by decide)
        rw [e7] at f8
        simp only [Value.agg.injEq, Array.mk.injEq, List.cons.injEq, and_true, true_and] at f8
        subst f8
        have l7 := (hp.lo 7 (by decide)).1
        have hbel := hp.bel
        have O9 : ROwns W wr.drew.heap.size 3 p7 (ic z) := O7.base_le l7
        obtain ⟨pb, pd, rfl⟩ := O9.rints.form
        have hT : TOwns W 65 (.slice gi ti.length ci) ti := HX.out.1.of_heap fun k hk => hbel.block k (HX.out.1.lt k hk)
        have HN : Hid (∀ v' w', TOwns w' 65 v' (ti ++ [(.int .i64 y, .int .i64 s, .slice pb z.length pd)]) → W.grownBy w' (Value.slice gi ti.length ci).ownBlock → (∀ k, v'.ownBlock = some k → (Value.slice gi ti.length ci).ownBlock = some k ∨ W.heap.size ≤ k) → (AtC w' b 34 #[.slice d1 xs.length f1, .slice d2 ys.length f2, .slice gi ti.length ci, .slice none 0 0]) ∧ Dz w (w'.setCell ⟨b, 2, none⟩ v') #[.slice a1 xs.length c1, .slice a2 ys.length c2, .slice (some ⟨g, off, none⟩) is.length c3, .slice a4 bs.length c4] b (.slice d1 xs.length f1) (.slice d2 ys.length f2) v' (.slice none 0 0) xs ys (is.take j ++ [(y, s, z)]) []) := fun v' w' h1 h2 h3 => HX.out.2.1 W w' v' _ (y, s, z) hbel ⟨rfl, rfl, O9.base_le (Nat.zero_le _)⟩ (fun k hk => (O9.lt k hk).1) h1 h2 h3
        have HTL : Hid (ti.length ≤ 1000000000000) := by have := HX.out.2.2; show ti.length ≤ _; omega
        have HA8 := hide A8
        have HT := hide hT
        generalize (iw 8).1 = g8 at *
        clear hT O9 O7 hp l7 hbel A8 HX HDS b0
        simp only [e1, e7, e8]
        refine wpList_step fun K' hK' => ?_
        refine step_append_three _ rfl (.tmp 18) (.tmp 25) 31 rfl 65 Tryz.u31 _ 40 Tryz.i65 rfl (by decide) (.slice gi ti.length ci) ti rfl HT.out g8 (.int .i64 y, .int .i64 s, .slice pb z.length pd) rfl ⟨HA8.out.cell 0, HA8.out.cell 1, HA8.out.cell 2⟩ ⟨rfl, rfl, rfl⟩ HTL.out ?_
        intro v9 w9 T9 G9 V9
        refine hK' _ _ ?_
        obtain ⟨e9, D9⟩ := HN.out v9 w9 T9 G9 V9
        obtain ⟨g9, c9, rfl, -⟩ := T9.form
        have e10 : (ti ++ [((.int .i64 y, .int .i64 s, .slice pb z.length pd) : V3)]).length = ti.length + 1 := by simp
        rw [e10] at D9 ⊢
        clear e10
        have z2 := e9.frozen 2
        have z3 : w9.cell? ⟨b, 2, none⟩ = some (.slice gi ti.length ci) := e9.cell 2
        have H9 := hide D9
        clear e9 D9 T9 G9 V9 HN HA8 HT HTL hK' K' e1 e7 e8
        go_wp2_with fail
        rw [List.filterMap_nil]
        go_wp2
        go_roundw
        case rel => exact ⟨j + 1, by omega, by go_num, _, by rw [← HTK.out]; exact H9.out⟩
        case measure => simp [intOf]; omega
    · have hj2 : j = is.length := by omega
      subst hj2
      rw [List.take_length] at hds
      obtain ⟨a5, c5, a6, c6, a7, c7, a8, c8, -, -, rfl, -⟩ := hds.dsk.dr.form
      have HD2 := hide hds
      have b0 : wr.cell? ⟨w.heap.size, 2, none⟩ = some (.slice a3 is.length c3) := hds.arg.cell 2
      clear hds HR
      go_wp2_with fail
      go_loopw [5] (fun i wr => ∃ j : Nat, j ≤ bs.length ∧ i = .int .i64 j ∧ Hid (∃ bv, Dz w wr #[.slice a1 xs.length c1, .slice a2 ys.length c2, .slice a3 is.length c3, .slice a4 bs.length c4] b (.slice d1 xs.length f1) (.slice d2 ys.length f2) (.slice a7 is.length c7) bv xs ys is (bs.take j))) (fun i _ => bs.length - (intOf i).toNat)
      case atStart => exact ⟨0, Nat.zero_le _, rfl, _, HD2.out⟩
      case round =>
        obtain ⟨j, hj, rfl, HR⟩ := hrel
        obtain ⟨bv, hds⟩ := HR.out
        by_cases hlt : j < bs.length
        · obtain ⟨ti, k1, k2, k3⟩ := hds.drew.appB
          obtain ⟨gi, ci, rfl, -⟩ := k1.form
          obtain ⟨ai, cai, ei, -, hci⟩ := H.out.k.blk
          obtain ⟨g, off, p, rfl, hg, m1, m2, m3, hp⟩ := hci j hlt
          simp only [Value.slice.injEq] at ei
          obtain ⟨rfl, -, rfl⟩ := ei
          have hpl := HG.out.s j hlt
          have htk : bs.take j ++ [bs[j]] = bs.take (j + 1) := List.take_append_getElem hlt
          obtain ⟨X, hX⟩ : ∃ X, bs[j] = X := ⟨_, rfl⟩
          obtain ⟨y, z, s⟩ := X
          rw [hX] at m1 m3 hp hpl htk
          simp only at m1 m3 hp
          obtain ⟨pa, pc, rfl⟩ := hp.form
          have hti : ti.length = j := by rw [k2, List.length_take]; omega
          have HX := hide (And.intro k1 (And.intro k3 hti))
          have HDS := hide hds
          have HP : Hid (∀ W, Below w.heap.size w W → RSl W (.slice pa z.length pc) z) := fun W b => hp.below b (Nat.le_refl _)
          have HPL := hide hpl
          have HTK := hide htk
          have HC : Hid (∀ W, Below wr.drew.heap.size wr.drew W → W.cell? ⟨b, 3, none⟩ = some (.slice gi ti.length ci) ∧ W.cell? ⟨w.heap.size, 3, none⟩ = some (.slice (some ⟨g, off, none⟩) bs.length c4) ∧ W.cell? ⟨g, off + j * 3, none⟩ = some (.bool y) ∧ W.cell? ⟨g, off + j * 3 + 1, none⟩ = some (.slice pa z.length pc) ∧ W.cell? ⟨g, off + j * 3 + 2, none⟩ = some (.string s) ∧ Below w.heap.size w W) := fun W b => by
            have hw := HDS.out.drew.below b
            exact ⟨hw.box.cell 3, hw.arg.cell 3, (hw.bel.cell (p := ⟨g, off + j * 3, none⟩) hg).trans m1, (hw.bel.cell (p := ⟨g, off + j * 3 + 1, none⟩) hg).trans m2, (hw.bel.cell (p := ⟨g, off + j * 3 + 2, none⟩) hg).trans m3, hw.bel⟩
          have b0 := HDS.out.arg.cell 3
          simp at b0
          have j0 : (0 : Int) ≤ (j : Int) := by omega
          have j1 : (j : Int) < (bs.length : Int) := by omega
          clear k1 k2 k3 hds HR hti m1 m2 m3 hp hpl htk hci hX hg
          go_wp2_with fail
          refine wp_region_frm (by kernel_rfl) [0, 1, 2, 3, 4, 5, 6, 7, 8] [9, 10, 11] (fun i => match i with | 0 => .const [] (.pointer (some ⟨b, 3, none⟩)) | 1 => .const [0] (.slice gi ti.length ci) | 2 => .const [] (.pointer (some ⟨w.heap.size, 3, none⟩)) | 3 => .const [2] (.slice (some ⟨g, off, none⟩) bs.length c4) | 4 => .const [] (.int .i64 (j : Int)) | 5 => .const [3, 4] (.pointer (some ⟨g, off + j * 3, none⟩)) | 6 => .const [5] (.agg #[.bool y, .slice pa z.length pc, .string s]) | 7 => MkK 6 y s z | 8 => MkK1 7 y s | _ => .triv) (fun x => ⟨#[Value.agg #[Value.slice a1 xs.length c1, Value.slice a2 ys.length c2, Value.slice a3 is.length c3, Value.slice (some { block := g, off := off }) bs.length c4], Value.pointer (some { block := w.heap.size, off := 0 }), Value.pointer (some { block := w.heap.size + 1, off := 0 }), Value.pointer (some { block := b, off := 0 }), Value.int IntKind.i64 ↑is.length, Value.int IntKind.i64 ↑j, Value.pointer (some { block := w.heap.size, off := 0 }), Value.agg #[Value.slice a1 xs.length c1, Value.slice a2 ys.length c2], Value.agg #[Value.slice d1 xs.length f1, Value.slice d2 ys.length f2], Value.agg #[Value.slice d1 xs.length f1, Value.slice d2 ys.length f2, Value.slice none 0 0, Value.slice none 0 0], Value.int IntKind.i64 ↑is.length, Value.pointer (some { block := w.heap.size, off := 2 }), Value.slice a3 is.length c3, Value.int IntKind.i64 ↑is.length, Value.bool false, u15, u16, u17, u18, u19, u20, u21, u22, u23, u24, u25, u26, u27, Value.int IntKind.i64 ↑j, Value.pointer (some { block := w.heap.size, off := 3 }), Value.slice (some { block := g, off := off }) bs.length c4, Value.int IntKind.i64 ↑bs.length, Value.bool true, u33, u34, x 0, x 1, x 2, x 3, x 4, x 5, x 6, x 7, x 8, u44, u45, undef], []⟩) (fun i => match i with | 0 => u35 | 1 => u36 | 2 => u37 | 3 => u38 | 4 => u39 | 5 => u40 | 6 => u41 | 7 => u42 | 8 => u43 | _ => undef) rfl (by kernel_rfl) (by kernel_rfl) (by kernel_rfl) rfl ?_ ?_
          · intro jo hj so x iw W hd hp K hK
            simp only [List.mem_cons, List.not_mem_nil, or_false] at hj
            rcases hj with rfl | rfl | rfl | rfl | rfl | rfl | rfl | rfl | rfl
            · refine wpOp_step (o := _) rfl fun K' hK' => ?_
              have HK := hide (fun (v : Value) (W' : World) h1 h2 => hK' _ _ (hK v W' h1 h2))
              simp only [upd, Nat.reduceEqDiff, if_true, if_false] at HK
              clear hK hK' hp hd
              go_simp
              exact HK.out _ _ (Below.refl _ _) rfl
            · refine wpOp_step (o := _) rfl fun K' hK' => ?_
              have HK := hide (fun (v : Value) (W' : World) h1 h2 => hK' _ _ (hK v W' h1 h2))
              simp only [upd, Nat.reduceEqDiff, if_true, if_false] at HK
              have e0 : x 0 = .pointer (some ⟨b, 3, none⟩) := hp.post 0 (hd 0 (show 0 ∈ [0] from by decide))
              have q0 := (HC.out W hp.bel).1
              clear hK hK' hp hd
              simp only [e0] at HK ⊢
              go_simp
              exact HK.out _ _ (Below.refl _ _) rfl
            · refine wpOp_step (o := _) rfl fun K' hK' => ?_
              have HK := hide (fun (v : Value) (W' : World) h1 h2 => hK' _ _ (hK v W' h1 h2))
              simp only [upd, Nat.reduceEqDiff, if_true, if_false] at HK
              clear hK hK' hp hd
              go_simp
              exact HK.out _ _ (Below.refl _ _) rfl
            · refine wpOp_step (o := _) rfl fun K' hK' => ?_
              have HK := hide (fun (v : Value) (W' : World) h1 h2 => hK' _ _ (hK v W' h1 h2))
              simp only [upd, Nat.reduceEqDiff, if_true, if_false] at HK
              have e2 : x 2 = .pointer (some ⟨w.heap.size, 3, none⟩) := hp.post 2 (hd 2 (show 2 ∈ [2] from by decide))
              have q0 := (HC.out W hp.bel).2.1
              clear hK hK' hp hd
              simp only [e2] at HK ⊢
              go_simp
              exact HK.out _ _ (Below.refl _ _) rfl
            · refine wpOp_step (o := _) rfl fun K' hK' => ?_
              have HK := hide (fun (v : Value) (W' : World) h1 h2 => hK' _ _ (hK v W' h1 h2))
              simp only [upd, Nat.reduceEqDiff, if_true, if_false] at HK
              clear hK hK' hp hd
              go_simp
              exact HK.out _ _ (Below.refl _ _) rfl
            · refine wpOp_step (o := _) rfl fun K' hK' => ?_
              have HK := hide (fun (v : Value) (W' : World) h1 h2 => hK' _ _ (hK v W' h1 h2))
              simp only [upd, Nat.reduceEqDiff, if_true, if_false] at HK
              have e3 : x 3 = .slice (some ⟨g, off, none⟩) bs.length c4 := hp.post 3 (hd 3 (show 3 ∈ [3, 4] from by decide))
              have e4 : x 4 = .int .i64 (j : Int) := hp.post 4 (hd 4 (show 4 ∈ [3, 4] from by decide))
              clear hK hK' hp hd
              simp only [e3, e4] at HK ⊢
              go_simp
              exact HK.out _ _ (Below.refl _ _) rfl
            · refine wpOp_step (o := _) rfl fun K' hK' => ?_
              have HK := hide (fun (v : Value) (W' : World) h1 h2 => hK' _ _ (hK v W' h1 h2))
              simp only [upd, Nat.reduceEqDiff, if_true, if_false] at HK
              have e5 : x 5 = .pointer (some ⟨g, off + j * 3, none⟩) := hp.post 5 (hd 5 (show 5 ∈ [5] from by decide))
              obtain ⟨-, -, q0, q1, q2, -⟩ := HC.out W hp.bel
              clear hK hK' hp hd
              simp only [e5] at HK ⊢
              go_simp
              exact HK.out _ _ (Below.refl _ _) rfl
            · refine wpOp_step (o := _) rfl fun K' hK' => ?_
              have HK := hide (fun (v : Value) (W' : World) h1 h2 => hK' _ _ (hK v W' h1 h2))
              simp only [upd, Nat.reduceEqDiff, if_true, if_false] at HK
              have e6 : x 6 = .agg #[.bool y, .slice pa z.length pc, .string s] := hp.post 6 (hd 6 (show 6 ∈ [6] from by decide))
              have bl := (HC.out W hp.bel).2.2.2.2.2
              clear hK hK' hp hd
              simp only [e6] at HK ⊢
              go_simp
              refine (copyK_any y s _ z W (HP.out W bl) HPL.out.1).mono ?_
              rintro e w6 ⟨p6, rfl, O6, B6⟩
              go_simp
              exact HK.out _ _ B6 ⟨p6, rfl, O6, fun i hi => (O6.lt i hi).2⟩
            · refine wpOp_step (o := _) rfl fun K' hK' => ?_
              have HK := hide (fun (v : Value) (W' : World) h1 h2 => hK' _ _ (hK v W' h1 h2))
              simp only [upd, Nat.reduceEqDiff, if_true, if_false] at HK
              have e7 : ∃ u, x 7 = .agg #[.bool y, u, .string s] ∧ SOwns W (iw 7).1 74 u z ∧ ∀ i, u.ownBlock = some i → i < (iw 7).2 := hp.post 7 (hd 7 (show 7 ∈ [7] from by decide))
              clear hK hK' hp hd
              obtain ⟨p7, e7, O7, -⟩ := e7
              obtain ⟨pb, pd, rfl⟩ := O7.rsl.form
              clear O7
              have HE := hide e7
              simp only [e7] at HK ⊢
              clear e7
              go_simp
              exact HK.out _ _ ((Below.refl _ W).alloc (Nat.le_refl _) _) ⟨rfl, by simp, .slice pb z.length pd, by rw [upd_ne _ _ _ _ (by decide)]; exact HE.out, AtC.new W 70 _⟩
          · intro x iw W hp
            have e1 : x 1 = .slice gi ti.length ci := hp.post 1 (by decide)
            obtain ⟨p7, e7, O7, -⟩ := hp.post 7 (by decide)
            obtain ⟨e8, -, p8, f8, A8⟩ := hp.post 8 (by decide)
            rw [e7] at f8
            simp only [Value.agg.injEq, Array.mk.injEq, List.cons.injEq, and_true, true_and] at f8
            subst f8
            have l7 := (hp.lo 7 (by decide)).1
            have hbel := hp.bel
            have O9 : SOwns W wr.drew.heap.size 74 p7 z := O7.base_le l7
            obtain ⟨pb, pd, rfl⟩ := O9.rsl.form
            have hT : TOwns W 70 (.slice gi ti.length ci) ti := HX.out.1.of_heap fun k hk => hbel.block k (HX.out.1.lt k hk)
            have HN : Hid (∀ v' w', TOwns w' 70 v' (ti ++ [(.bool y, .slice pb z.length pd, .string s)]) → W.grownBy w' (Value.slice gi ti.length ci).ownBlock → (∀ k, v'.ownBlock = some k → (Value.slice gi ti.length ci).ownBlock = some k ∨ W.heap.size ≤ k) → (AtC w' b 34 #[.slice d1 xs.length f1, .slice d2 ys.length f2, .slice a7 is.length c7, .slice gi ti.length ci]) ∧ Dz w (w'.setCell ⟨b, 3, none⟩ v') #[.slice a1 xs.length c1, .slice a2 ys.length c2, .slice a3 is.length c3, .slice (some ⟨g, off, none⟩) bs.length c4] b (.slice d1 xs.length f1) (.slice d2 ys.length f2) (.slice a7 is.length c7) v' xs ys is (bs.take j ++ [(y, z, s)])) := fun v' w' h1 h2 h3 => HX.out.2.1 W w' v' _ (y, z, s) hbel ⟨rfl, O9.base_le (Nat.zero_le _), rfl⟩ (fun k hk => (O9.lt k hk).1) h1 h2 h3
            have HTL : Hid (ti.length ≤ 1000000000000) := by have := HX.out.2.2; show ti.length ≤ _; omega
            have HA8 := hide A8
            have HT := hide hT
            generalize (iw 8).1 = g8 at *
            clear hT O9 O7 hp l7 hbel A8 HX HDS b0
            simp only [e1, e7, e8]
            refine wpList_step fun K' hK' => ?_
            refine step_append_three _ rfl (.tmp 36) (.tmp 43) 32 rfl 70 Tryz.u32 _ 48 Tryz.i70 rfl (by decide) (.slice gi ti.length ci) ti rfl HT.out g8 (.bool y, .slice pb z.length pd, .string s) rfl ⟨HA8.out.cell 0, HA8.out.cell 1, HA8.out.cell 2⟩ ⟨rfl, rfl, rfl⟩ HTL.out ?_
            intro v9 w9 T9 G9 V9
            refine hK' _ _ ?_
            obtain ⟨e9, D9⟩ := HN.out v9 w9 T9 G9 V9
            obtain ⟨g9, c9, rfl, -⟩ := T9.form
            have e10 : (ti ++ [((.bool y, .slice pb z.length pd, .string s) : V3)]).length = ti.length + 1 := by simp
            rw [e10] at D9 ⊢
            clear e10
            have z2 := e9.frozen 3
            have z3 : w9.cell? ⟨b, 3, none⟩ = some (.slice gi ti.length ci) := e9.cell 3
            have H9 := hide D9
            clear e9 D9 T9 G9 V9 HN HA8 HT HTL hK' K' e1 e7 e8
            go_wp2_with fail
            rw [List.filterMap_nil]
            go_wp2
            go_roundw
            case rel => exact ⟨j + 1, by omega, by go_num, _, by rw [← HTK.out]; exact H9.out⟩
            case measure => simp [intOf]; omega
        · have hj3 : j = bs.length := by omega
          subst hj3
          rw [List.take_length] at hds
          obtain ⟨-, -, -, -, -, -, p8, q8, -, -, -, rfl⟩ := hds.dsk.dr.form
          have H7 := hide hds
          have b0 : wr.cell? ⟨w.heap.size, 3, none⟩ = some (.slice a4 bs.length c4) := hds.arg.cell 3
          have y0 : wr.cell? ⟨b, 0, none⟩ = some (.slice d1 xs.length f1) := hds.box.cell 0
          have y1 : wr.cell? ⟨b, 1, none⟩ = some (.slice d2 ys.length f2) := hds.box.cell 1
          have y2 : wr.cell? ⟨b, 2, none⟩ = some (.slice a7 is.length c7) := hds.box.cell 2
          have y3 : wr.cell? ⟨b, 3, none⟩ = some (.slice p8 bs.length q8) := hds.box.cell 3
          have r0 : wr.cell? ⟨w.heap.size + 1, 0, none⟩ = some (.slice none 0 0) := hds.res.cell 0
          have r1 : wr.cell? ⟨w.heap.size + 1, 1, none⟩ = some (.slice none 0 0) := hds.res.cell 1
          have r2 : wr.cell? ⟨w.heap.size + 1, 2, none⟩ = some (.slice none 0 0) := hds.res.cell 2
          have r3 : wr.cell? ⟨w.heap.size + 1, 3, none⟩ = some (.slice none 0 0) := hds.res.cell 3
          have v0 := hds.res.frozen 0
          have v1 := hds.res.frozen 1
          have v2 := hds.res.frozen 2
          have v3 := hds.res.frozen 3
          clear hds HR
          go_wp2
          refine bodyPost_ret (v := .agg #[.slice d1 xs.length f1, .slice d2 ys.length f2, .slice a7 is.length c7, .slice p8 bs.length q8]) (by simp [results, go_sem, r0, r1, r2, r3]) rfl ⟨_, _, _, _, rfl, ?_, ?_⟩
          · exact (H7.out.dsk.of_heap fun k hk _ => ((((heap_setCell_other _ ⟨w.heap.size + 1, 3, none⟩ k _ (by show k ≠ w.heap.size + 1; omega)).trans (heap_setCell_other _ ⟨w.heap.size + 1, 2, none⟩ k _ (by show k ≠ w.heap.size + 1; omega))).trans (heap_setCell_other _ ⟨w.heap.size + 1, 1, none⟩ k _ (by show k ≠ w.heap.size + 1; omega))).trans (heap_setCell_other _ ⟨w.heap.size + 1, 0, none⟩ k _ (by show k ≠ w.heap.size + 1; omega)))).mono fun k hk => by omega
          · exact (((H7.out.bel.setCell (by simp) _).setCell (by simp) _).setCell (by simp) _).setCell (by simp) _
end Go.Proofs.YtbebgnknjoclkaaGreat
/- Of the specification: MendPointers by its contract. -/
namespace Go.Proofs.YtbebgnknjoclkaaGreat
open Go.RowKit Kit
def BkE (A : Value) (F : Bool) (_ _ : Nat) (_ : World) (a r : Value) : Prop := a = A ∧ r = .bool F
theorem BkE.below {A : Value} {F : Bool} (lo hi : Nat) (w w' : World) (a r : Value) (h : BkE A F lo hi w a r) (_ : Below w.heap.size w w') : BkE A F lo hi w' a r := h
/-- What the pass makes of any disk. -/
def mendP' (xs ys : List Bool) (is : List Ino) (bs : List Blk) : List Ino := if diskOk xs ys is bs = true then mendP is bs else is
set_option maxRecDepth 100000 in
set_option maxHeartbeats 6400000 in
theorem specMP_any (u v iv bv : Value) (xs ys : List Bool) (is : List Ino) (bs : List Blk) (w : World) (h : DR w u v iv bv xs ys is bs) (hG : Big 1048576 xs ys is bs) :
    Calls Tryz.prog 16 #[.agg #[u, v, iv, bv]] w fun e w' => ∃ u' v' i' b', e = .returned (.agg #[u', v', i', b']) ∧ DO w' (fun k => w.heap.size ≤ k) u' v' i' b' xs ys (mendP' xs ys is bs) bs ∧ Below w.heap.size w w' := by
  obtain ⟨a1, c1, a2, c2, a3, c3, a4, c4, rfl, rfl, rfl, rfl⟩ := h.form
  have HH := hide h
  have HG := hide hG
  obtain ⟨W0, hW0⟩ : ∃ W, ((w.alloc (.cells #[.slice a1 xs.length c1, .slice a2 ys.length c2, .slice a3 is.length c3, .slice a4 bs.length c4] 34)).alloc (.cells #[.slice none 0 0, .slice none 0 0, .slice none 0 0, .slice none 0 0] 34)) = W := ⟨_, rfl⟩
  have H0 : Hid (Below w.heap.size w W0 ∧ AtC W0 w.heap.size 34 #[.slice a1 xs.length c1, .slice a2 ys.length c2, .slice a3 is.length c3, .slice a4 bs.length c4] ∧ AtC W0 (w.heap.size + 1) 34 noD ∧ W0.heap.size = w.heap.size + 2) := by
    rw [← hW0]
    have q := AtC.new (w.alloc (.cells #[.slice a1 xs.length c1, .slice a2 ys.length c2, .slice a3 is.length c3, .slice a4 bs.length c4] 34)) 34 #[.slice none 0 0, .slice none 0 0, .slice none 0 0, .slice none 0 0]
    rw [World.size_alloc] at q
    exact ⟨((Below.refl _ w).alloc (Nat.le_refl _) _).alloc (by simp) _, (AtC.new w 34 _).alloc _, q, by simp⟩
  have x0 : W0.cell? ⟨w.heap.size, 0, none⟩ = some (.slice a1 xs.length c1) := H0.out.2.1.cell 0
  have x1 : W0.cell? ⟨w.heap.size, 1, none⟩ = some (.slice a2 ys.length c2) := H0.out.2.1.cell 1
  have x2 : W0.cell? ⟨w.heap.size, 2, none⟩ = some (.slice a3 is.length c3) := H0.out.2.1.cell 2
  have x3 : W0.cell? ⟨w.heap.size, 3, none⟩ = some (.slice a4 bs.length c4) := H0.out.2.1.cell 3
  clear h hG
  go_enter Tryz.func16, Tryz.ntmps16
  go_wp2_with fail
  refine (specCopy_any (.slice a1 xs.length c1) (.slice a2 ys.length c2) (.slice a3 is.length c3) (.slice a4 bs.length c4) xs ys is bs W0 (HH.out.below H0.out.1 (Nat.le_refl _)) HG.out).mono ?_
  rintro e w1 ⟨u1, u2, u3, u4, rfl, O1, B1⟩
  obtain ⟨p1, q1, p2, q2, p3, q3, p4, q4, rfl, rfl, rfl, rfl⟩ := O1.dr.form
  obtain ⟨b, hb⟩ : ∃ n, w1.heap.size = n := ⟨_, rfl⟩
  obtain ⟨W2, hW2⟩ : ∃ W, w1.alloc (.cells #[.slice p1 xs.length q1, .slice p2 ys.length q2, .slice (p3) is.length q3, .slice p4 bs.length q4] 34) = W := ⟨_, rfl⟩
  have H2 : Hid (Below w.heap.size w W2 ∧ AtC W2 w.heap.size 34 #[.slice a1 xs.length c1, .slice a2 ys.length c2, .slice a3 is.length c3, .slice a4 bs.length c4] ∧ AtC W2 (w.heap.size + 1) 34 noD ∧ AtC W2 b 34 #[.slice p1 xs.length q1, .slice p2 ys.length q2, .slice (p3) is.length q3, .slice p4 bs.length q4] ∧ DO W2 (fun k => w.heap.size + 2 ≤ k ∧ k ≠ b) (.slice p1 xs.length q1) (.slice p2 ys.length q2) (.slice (p3) is.length q3) (.slice p4 bs.length q4) xs ys is bs ∧ w.heap.size + 2 ≤ b ∧ W2.heap.size = b + 1) := by
    have b1 := H0.out.1.trans (B1.mono H0.out.1.size)
    have s1 := B1.size
    rw [H0.out.2.2.2, hb] at s1
    rw [← hW2]
    refine ⟨b1.alloc b1.size _, (H0.out.2.1.over B1).alloc _, (H0.out.2.2.1.over B1).alloc _, by rw [← hb]; exact AtC.new w1 34 _, ?_, s1, by rw [World.size_alloc, hb]⟩
    obtain ⟨ti, tb, L1⟩ := O1.dl
    have L2 := L1.bound.do_.mono (S' := fun k => w.heap.size + 2 ≤ k ∧ k ≠ b) fun k hk => ⟨by rw [← H0.out.2.2.2]; exact hk.1, by have := hk.2; omega⟩
    exact L2.alloc _
  have y0 : W2.cell? ⟨w.heap.size, 0, none⟩ = some (.slice a1 xs.length c1) := H2.out.2.1.cell 0
  have y1 : W2.cell? ⟨w.heap.size, 1, none⟩ = some (.slice a2 ys.length c2) := H2.out.2.1.cell 1
  have y2 : W2.cell? ⟨w.heap.size, 2, none⟩ = some (.slice a3 is.length c3) := H2.out.2.1.cell 2
  have y3 : W2.cell? ⟨w.heap.size, 3, none⟩ = some (.slice a4 bs.length c4) := H2.out.2.1.cell 3
  clear O1 B1 hW0 x0 x1 x2 x3 H0
  go_wp2_with fail
  refine (specOk_disk (.slice a1 xs.length c1) (.slice a2 ys.length c2) (.slice a3 is.length c3) (.slice a4 bs.length c4) xs ys is bs W2 (HH.out.below H2.out.1 (Nat.le_refl _)) (fun j hj k hk => (HG.out.s j hj).2.1 k hk)).mono ?_
  rintro e w3 ⟨rfl, B3⟩
  have H3 : Hid (Below w.heap.size w w3 ∧ AtC w3 w.heap.size 34 #[.slice a1 xs.length c1, .slice a2 ys.length c2, .slice a3 is.length c3, .slice a4 bs.length c4] ∧ AtC w3 (w.heap.size + 1) 34 noD ∧ AtC w3 b 34 #[.slice p1 xs.length q1, .slice p2 ys.length q2, .slice (p3) is.length q3, .slice p4 bs.length q4] ∧ DO w3 (fun k => w.heap.size + 2 ≤ k ∧ k ≠ b) (.slice p1 xs.length q1) (.slice p2 ys.length q2) (.slice (p3) is.length q3) (.slice p4 bs.length q4) xs ys is bs ∧ w.heap.size + 2 ≤ b) := ⟨H2.out.1.trans (B3.mono H2.out.1.size), H2.out.2.1.over B3, H2.out.2.2.1.over B3, H2.out.2.2.2.1.over B3, H2.out.2.2.2.2.1.below B3 (Nat.le_refl _), H2.out.2.2.2.2.2.1⟩
  clear B3 H2 hW2 hb y0 y1 y2 y3
  cases hok : diskOk xs ys is bs with
  | false =>
    have HM : Hid (mendP' xs ys is bs = is) := by unfold mendP'; rw [hok]; rfl
    have r0 : w3.cell? ⟨w.heap.size + 1, 0, none⟩ = some (.slice none 0 0) := H3.out.2.2.1.cell 0
    have r1 : w3.cell? ⟨w.heap.size + 1, 1, none⟩ = some (.slice none 0 0) := H3.out.2.2.1.cell 1
    have r2 : w3.cell? ⟨w.heap.size + 1, 2, none⟩ = some (.slice none 0 0) := H3.out.2.2.1.cell 2
    have r3 : w3.cell? ⟨w.heap.size + 1, 3, none⟩ = some (.slice none 0 0) := H3.out.2.2.1.cell 3
    have v0 := H3.out.2.2.1.frozen 0
    have v1 := H3.out.2.2.1.frozen 1
    have v2 := H3.out.2.2.1.frozen 2
    have v3 := H3.out.2.2.1.frozen 3
    have o0 : w3.cell? ⟨b, 0, none⟩ = some (.slice p1 xs.length q1) := H3.out.2.2.2.1.cell 0
    have o1 : w3.cell? ⟨b, 1, none⟩ = some (.slice p2 ys.length q2) := H3.out.2.2.2.1.cell 1
    have o2 : w3.cell? ⟨b, 2, none⟩ = some (.slice p3 is.length q3) := H3.out.2.2.2.1.cell 2
    have o3 : w3.cell? ⟨b, 3, none⟩ = some (.slice p4 bs.length q4) := H3.out.2.2.2.1.cell 3
    have hne : ¬ b = w.heap.size + 1 := by have := H3.out.2.2.2.2.2; omega
    have hne2 : ¬ w.heap.size + 1 = b := by have := H3.out.2.2.2.2.2; omega
    obtain ⟨ti, tb, L3⟩ := H3.out.2.2.2.2.1.dl
    have HF := hide (OS.fin (A := #[.slice a1 xs.length c1, .slice a2 ys.length c2, .slice a3 is.length c3, .slice a4 bs.length c4]) (n0 := w3.heap.size) ⟨L3.bound, H3.out.2.2.2.1, H3.out.2.2.1, H3.out.2.1, H3.out.1, H3.out.2.2.2.1.lt, H3.out.2.2.2.2.2, Nat.le_refl _⟩ (.slice p1 xs.length q1) (.slice p2 ys.length q2) (.slice p3 is.length q3) (.slice p4 bs.length q4))
    clear hok L3
    go_wp2
    refine bodyPost_ret (v := .agg #[.slice p1 xs.length q1, .slice p2 ys.length q2, .slice (p3) is.length q3, .slice p4 bs.length q4]) (by simp [results, go_sem, r0, r1, r2, r3]) rfl ⟨_, _, _, _, rfl, ?_, ?_⟩
    · rw [HM.out]; exact HF.out.1
    · exact HF.out.2
  | true =>
    have HM : Hid (mendP' xs ys is bs = mendP is bs) := by unfold mendP'; rw [hok]; rfl
    have HO := hide hok
    have hX := RX.of_ok hok
    have HI8 := hide hX.r.hi
    have HB16 := hide hX.r.hb
    obtain ⟨g2, o2, sa2, sc2, e2, hg2, k2, -⟩ := DR.ino HH.out 0 (by rw [HI8.out]; decide)
    subst e2
    obtain ⟨kd, hkd⟩ : ∃ k, kindAt is 1 = k := ⟨_, rfl⟩
    have HKD := hide hkd
    have k2' : w3.cell? ⟨g2, o2, none⟩ = some (.int .i64 kd) := by
      have := (H3.out.1.cell (p := ⟨g2, o2 + 0 * 3, none⟩) hg2).trans k2
      rw [← hkd]
      simpa using this
    obtain ⟨g3, e3, -⟩ : ∃ g3, p3 = some ⟨g3, 0, none⟩ ∧ True := by
      obtain ⟨ti, tb, hL⟩ := H3.out.2.2.2.2.1.dl
      obtain ⟨g, c, e, h1, h2, h3, -⟩ := hL.ino 0 (by rw [HI8.out]; decide)
      simp only [Value.slice.injEq] at e
      exact ⟨g, e.1, trivial⟩
    subst e3
    have z2 : w3.cell? ⟨w.heap.size, 2, none⟩ = some (.slice (some ⟨g2, o2, none⟩) is.length c3) := H3.out.2.1.cell 2
    have hl0 : (0 : Int) < (is.length : Int) := by have := HI8.out; omega
    clear hok hX k2 hkd
    go_upto_if 21 with fail
    go_cut [3] from 10 to 26 (fun pv wx => pv = .pointer (some ⟨b, 0, none⟩) ∧ DO wx (fun k => w.heap.size + 2 ≤ k ∧ k ≠ b) (.slice p1 xs.length q1) (.slice p2 ys.length q2) (.slice (some ⟨g3, 0, none⟩) is.length q3) (.slice p4 bs.length q4) xs ys (rootD is) bs ∧ Chg (fun k => w.heap.size + 2 ≤ k ∧ k ≠ b) w3 wx)
    case first =>
      by_cases hk : kd = 2
      · have n1 : (kd != 2) = false := by simp [hk]
        have e0 : Hid (rootD is = is) := by unfold rootD; exact if_pos (by rw [HKD.out]; exact hk)
        clear hk
        go_wp2_with fail
        go_meet
        exact ⟨rfl, by rw [e0.out]; exact H3.out.2.2.2.2.1, Chg.refl _ _⟩
      · have n1 : (kd != 2) = true := by simp [hk]
        have e0 : Hid (rootD is = is.set 0 (2, 1, [0, 0])) := by unfold rootD; exact if_neg (by rw [HKD.out]; exact hk)
        clear hk
        have HW : Hid (∀ W, Below w3.heap.size w3 W → W.cell? ⟨b, 2, none⟩ = some (.slice (some ⟨g3, 0, none⟩) is.length q3) ∧ (∃ v0, W.cell? ⟨g3, 0, none⟩ = some v0) ∧ (∃ v0, W.cell? ⟨g3, 1, none⟩ = some v0) ∧ (∃ v0, W.cell? ⟨g3, 2, none⟩ = some v0) ∧ W.frozen? ⟨g3, 0, none⟩ = false ∧ W.frozen? ⟨g3, 1, none⟩ = false ∧ W.frozen? ⟨g3, 2, none⟩ = false ∧ g3 < W.heap.size ∧ b < W.heap.size) := fun W hb => by
          obtain ⟨⟨q1, q2, q3, q4, q5, q6, -⟩, q7, q8, -⟩ := (H3.out.2.2.2.2.1.below hb (Nat.le_refl _)).atI rfl 0 (show 0 < is.length by rw [HI8.out]; decide)
          exact ⟨(H3.out.2.2.2.1.over hb).cell 2, ⟨_, q4⟩, ⟨_, q5⟩, ⟨_, q6⟩, q7 0, q7 1, q7 2, q8, (H3.out.2.2.2.1.over hb).lt⟩
        have HPUT : Hid (∀ (W : World) (nv : Value), ROwns W w3.heap.size 3 nv (ic [0, 0]) → Below w3.heap.size w3 W → DO (((W.setCell ⟨g3, 0, none⟩ (.int .i64 2)).setCell ⟨g3, 1, none⟩ (.int .i64 (newLinks 2))).setCell ⟨g3, 2, none⟩ nv) (fun k => w.heap.size + 2 ≤ k ∧ k ≠ b) (.slice p1 xs.length q1) (.slice p2 ys.length q2) (.slice (some ⟨g3, 0, none⟩) is.length q3) (.slice p4 bs.length q4) xs ys (rootD is) bs ∧ Chg (fun k => w.heap.size + 2 ≤ k ∧ k ≠ b) w3 (((W.setCell ⟨g3, 0, none⟩ (.int .i64 2)).setCell ⟨g3, 1, none⟩ (.int .i64 (newLinks 2))).setCell ⟨g3, 2, none⟩ nv)) := fun W nv ho hb => by
          have hbl := H3.out.2.2.2.1.lt
          have hBw := H3.out.2.2.2.2.2
          have hgs := (H3.out.2.2.2.2.1.atI rfl 0 (show 0 < is.length by rw [HI8.out]; decide)).2.2.2.2
          rw [e0.out]
          refine ⟨(H3.out.2.2.2.2.1.putI rfl 0 (show 0 < is.length by rw [HI8.out]; decide) (.int .i64 2, .int .i64 (newLinks 2), nv) (2, 1, [0, 0]) hb ⟨rfl, rfl, ho.base_le (Nat.zero_le _)⟩ (fun k hk => by have := (ho.lt k hk).1; omega)).mono fun k hk => hk.elim id (fun e => ⟨by omega, by omega⟩), (((Chg.of_below hb).setCell hgs _).setCell hgs _).setCell hgs _⟩
        obtain ⟨n0, ⟨p0', k0⟩, ⟨p1', k1⟩, ⟨p2', k2⟩, f0, f1, f2, g0, g1⟩ := HW.out w3 (Below.refl _ _)
        go_upto_region 5 with fail
        go_region_with (go_at_call 38; refine (specNew_anyI 2 _).mono ?_; rintro e w5 ⟨nv, rfl, O5, B5⟩; obtain ⟨na, nc, rfl⟩ := O5.form2; have HO5 := hide (And.intro O5 B5); obtain ⟨n0', ⟨p0'', k0'⟩, ⟨p1'', k1'⟩, ⟨p2'', k2''⟩, f0', f1', f2', g0', g1'⟩ := HW.out w5 (of_drew B5); clear O5 B5)
        all_goals (go_wp2_with fail; go_meet; exact ⟨rfl, HPUT.out w5 _ HO5.out.1 (of_drew HO5.out.2)⟩)
    case rest =>
      obtain ⟨rfl, D4, C4⟩ := hcut
      obtain ⟨ti, tb, L4⟩ := D4.dl
      obtain ⟨n0, hn0⟩ : ∃ n, wc.heap.size = n := ⟨_, rfl⟩
      have H4 : Hid (OS w wc b n0 #[.slice a1 xs.length c1, .slice a2 ys.length c2, .slice (some ⟨g2, o2, none⟩) is.length c3, .slice a4 bs.length c4] (.slice p1 xs.length q1) (.slice p2 ys.length q2) (.slice (some ⟨g3, 0, none⟩) is.length q3) (.slice p4 bs.length q4) ti tb xs ys (rootD is) bs) := by
        have hBw := H3.out.2.2.2.2.2
        have l3 := H3.out.2.2.2.1.lt
        have s4 := C4.size
        have s3 := H3.out.1.size
        refine ⟨by rw [← hn0]; exact L4.bound, (C4.block b l3 (fun e => e.2 rfl)).trans H3.out.2.2.2.1, (C4.block _ (by omega) (fun e => by omega)).trans H3.out.2.2.1, (C4.block _ (by omega) (fun e => by omega)).trans H3.out.2.1, H3.out.1.trans (C4.below s3 (fun k hk => by omega)), by omega, hBw, by omega⟩
      obtain ⟨W5, hW5⟩ : ∃ W, wc.alloc (.cells #[] 3) = W := ⟨_, rfl⟩
      have H5 : Hid (OS w W5 b n0 #[.slice a1 xs.length c1, .slice a2 ys.length c2, .slice (some ⟨g2, o2, none⟩) is.length c3, .slice a4 bs.length c4] (.slice p1 xs.length q1) (.slice p2 ys.length q2) (.slice (some ⟨g3, 0, none⟩) is.length q3) (.slice p4 bs.length q4) ti tb xs ys (mpI is bs 0).1 bs ∧ ROwns W5 n0 3 (.slice (some ⟨n0, 0, none⟩) 0 0) (ic (mpI is bs 0).2)) := by
        rw [← hW5, ← hn0]
        rw [← hn0] at H4
        exact ⟨H4.out.below ((Below.refl _ wc).alloc (Nat.le_refl _) _), ROwns.lit0 wc wc.heap.size 3 (Nat.le_refl _)⟩
      clear L4 D4 C4 H3 H4
      go_wp2_with fail
      go_loopw [4, 5] (fun sv kv wr => ∃ (s' : Value) (j : Nat), s' = sv ∧ j ≤ is.length ∧ kv = .int .i64 j ∧ Hid (OS w wr b n0 #[.slice a1 xs.length c1, .slice a2 ys.length c2, .slice (some ⟨g2, o2, none⟩) is.length c3, .slice a4 bs.length c4] (.slice p1 xs.length q1) (.slice p2 ys.length q2) (.slice (some ⟨g3, 0, none⟩) is.length q3) (.slice p4 bs.length q4) ti tb xs ys (mpI is bs j).1 bs ∧ ROwns wr n0 3 s' (ic (mpI is bs j).2))) (fun _ kv _ => is.length - (intOf kv).toNat)
      case atStart => exact ⟨_, 0, rfl, Nat.zero_le _, rfl, H5.out⟩
      case round =>
        obtain ⟨sv, j, hsv, hj, rfl, HR⟩ := hrel
        subst hsv
        clear H5 hn0 hW5
        have jj0 : (0 : Int) ≤ (j : Int) := by omega
        have o2' : wr.cell? ⟨b, 2, none⟩ = some (.slice (some ⟨g3, 0, none⟩) is.length q3) := HR.out.1.o.cell 2
        by_cases hlt : j < is.length
        rotate_left
        · have jj1 : ¬ ((j : Int) < (is.length : Int)) := by omega
          have r0 : wr.cell? ⟨w.heap.size + 1, 0, none⟩ = some (.slice none 0 0) := HR.out.1.r.cell 0
          have r1 : wr.cell? ⟨w.heap.size + 1, 1, none⟩ = some (.slice none 0 0) := HR.out.1.r.cell 1
          have r2 : wr.cell? ⟨w.heap.size + 1, 2, none⟩ = some (.slice none 0 0) := HR.out.1.r.cell 2
          have r3 : wr.cell? ⟨w.heap.size + 1, 3, none⟩ = some (.slice none 0 0) := HR.out.1.r.cell 3
          have v0 := HR.out.1.r.frozen 0
          have v1 := HR.out.1.r.frozen 1
          have v2 := HR.out.1.r.frozen 2
          have v3 := HR.out.1.r.frozen 3
          have o0 : wr.cell? ⟨b, 0, none⟩ = some (.slice p1 xs.length q1) := HR.out.1.o.cell 0
          have o1 : wr.cell? ⟨b, 1, none⟩ = some (.slice p2 ys.length q2) := HR.out.1.o.cell 1
          have o3 : wr.cell? ⟨b, 3, none⟩ = some (.slice p4 bs.length q4) := HR.out.1.o.cell 3
          have hne : ¬ b = w.heap.size + 1 := by have := HR.out.1.Bn; omega
          have hne2 : ¬ w.heap.size + 1 = b := by have := HR.out.1.Bn; omega
          have HF := hide (HR.out.1.fin (.slice p1 xs.length q1) (.slice p2 ys.length q2) (.slice (some ⟨g3, 0, none⟩) is.length q3) (.slice p4 bs.length q4))
          have HE : Hid ((mpI is bs j).1 = mendP is bs) := by show _ = _; rw [show j = 8 by have := HI8.out; omega]; exact mpI_all is bs
          go_wp2
          refine bodyPost_ret (v := .agg #[.slice p1 xs.length q1, .slice p2 ys.length q2, .slice (some ⟨g3, 0, none⟩) is.length q3, .slice p4 bs.length q4]) (by simp [results, go_sem, r0, r1, r2, r3]) rfl ⟨_, _, _, _, rfl, ?_, ?_⟩
          · rw [HM.out, ← HE.out]; exact HF.out.1
          · exact HF.out.2
        have jj1 : (j : Int) < (is.length : Int) := by omega
        have HPI := hide ((PI.begin HO.out).steps (kndQ (rootD is) j))
        rw [show mpF bs (rootD is, []) (kndQ (rootD is) j) = mpI is bs j from rfl] at HPI
        have HSC := hide (mpI_succ is bs j)
        obtain ⟨st, hst⟩ : ∃ x, mpI is bs j = x := ⟨_, rfl⟩
        rw [hst] at HR HPI HSC
        have HJ8 : Hid (j < 8) := by have := HI8.out; show j < 8; omega
        have hj8 : j < 8 := HJ8.out
        have hjs : j < st.1.length := by have := (diskOk_parts HPI.out.ok).2.2.1; have := HJ8.out; omega
        obtain ⟨g', c', ei, -, -, -, y0, y1, y2, ro, -⟩ := HR.out.1.d.ino j hjs
        simp only [Value.slice.injEq, Option.some.injEq, Addr.mk.injEq] at ei
        obtain ⟨⟨rfl, -⟩, -, -⟩ := ei
        have h2 : st.1[j].2.2.length = 2 := (RX.of_ok HPI.out.ok).r.two _ (List.getElem_mem hjs)
        obtain ⟨gp, cp, ep, -, -, -, hgp, -⟩ := ro.at 0 (by rw [ic_length, h2]; decide)
        rw [ic_length, h2] at ep
        rw [ep] at y2
        have HEP := hide ep
        have HKQ : Hid (kindAt (rootD is) ((j : Int) + 1) = st.1[j].1) := by show _ = _; rw [← HPI.out.kd, (kindAt_in hjs).1]
        obtain ⟨kj, hkj⟩ : ∃ x, st.1[j].1 = x := ⟨_, rfl⟩
        obtain ⟨lj, hlj⟩ : ∃ x, st.1[j].2.1 = x := ⟨_, rfl⟩
        rw [hkj] at y0 HKQ
        rw [hlj] at y1
        rw [HKQ.out] at HSC
        have HKJ : Hid (∀ t, (hx : j < (mpK bs st j t).1.length) → (mpK bs st j t).1[j].1 = kj) := fun t hx => by
          have e1 := (HPI.out.stepK j t).kd ((j : Int) + 1)
          rw [(kindAt_in hx).1] at e1
          rw [e1, HKQ.out]
        obtain ⟨xb, hxb⟩ : ∃ n, wr.heap.size = n := ⟨_, rfl⟩
        obtain ⟨W6, hW6⟩ : ∃ W, wr.alloc (.cells #[.int .i64 kj, .int .i64 lj, .slice (some ⟨gp, 0, none⟩) 2 cp] 65) = W := ⟨_, rfl⟩
        have H6 : Hid (OS w W6 b n0 #[.slice a1 xs.length c1, .slice a2 ys.length c2, .slice (some ⟨g2, o2, none⟩) is.length c3, .slice a4 bs.length c4] (.slice p1 xs.length q1) (.slice p2 ys.length q2) (.slice (some ⟨g3, 0, none⟩) is.length q3) (.slice p4 bs.length q4) ti tb xs ys (mpK bs st j 0).1 bs ∧ ROwns W6 n0 3 sv (ic (mpK bs st j 0).2) ∧ AtC W6 xb 65 #[.int .i64 kj, .int .i64 lj, .slice (some ⟨gp, 0, none⟩) 2 cp] ∧ (∀ k, sv.ownBlock = some k → k ≠ xb) ∧ n0 ≤ xb ∧ (kj = 0 → 0 = 0)) := by
          have bl := (Below.refl _ wr).alloc (Nat.le_refl _) (.cells #[.int .i64 kj, .int .i64 lj, .slice (some ⟨gp, 0, none⟩) 2 cp] 65)
          rw [← hW6, ← hxb]
          exact ⟨HR.out.1.below bl, HR.out.2.below bl (Nat.le_refl _), AtC.new wr 65 _, fun k hk e => by have := (HR.out.2.lt k hk).2; omega, HR.out.1.nn, fun _ => rfl⟩
        clear hst ro h2 ep HR hkj hlj
        go_wp2_with fail
        go_loopw [4, 7] (fun sv kv wr => ∃ (s' : Value) (t : Nat), s' = sv ∧ t ≤ 2 ∧ kv = .int .i64 t ∧ Hid (OS w wr b n0 #[.slice a1 xs.length c1, .slice a2 ys.length c2, .slice (some ⟨g2, o2, none⟩) is.length c3, .slice a4 bs.length c4] (.slice p1 xs.length q1) (.slice p2 ys.length q2) (.slice (some ⟨g3, 0, none⟩) is.length q3) (.slice p4 bs.length q4) ti tb xs ys (mpK bs st j t).1 bs ∧ ROwns wr n0 3 s' (ic (mpK bs st j t).2) ∧ AtC wr xb 65 #[.int .i64 kj, .int .i64 lj, .slice (some ⟨gp, 0, none⟩) 2 cp] ∧ (∀ k, s'.ownBlock = some k → k ≠ xb) ∧ n0 ≤ xb ∧ (kj = 0 → t = 0))) (fun _ kv _ => 2 - (intOf kv).toNat)
        case atStart => exact ⟨_, 0, rfl, Nat.zero_le _, rfl, H6.out.1, H6.out.2.1, H6.out.2.2.1, H6.out.2.2.2.1, H6.out.2.2.2.2.1, fun _ => rfl⟩
        case round =>
          obtain ⟨sv', t, hsv, ht, rfl, HT⟩ := hrel
          subst hsv
          clear H6 hxb hW6 o2' y0 y1 y2
          have t0 : (0 : Int) ≤ (t : Int) := by omega
          have g0 : wr.cell? ⟨xb, 0, none⟩ = some (.int .i64 kj) := HT.out.2.2.1.cell 0
          have g1 : wr.cell? ⟨xb, 2, none⟩ = some (.slice (some ⟨gp, 0, none⟩) 2 cp) := HT.out.2.2.1.cell 2
          by_cases htl : t < 2
          rotate_left
          · have t1 : ¬ ((t : Int) < (2 : Int)) := by omega
            have HE : Hid (mpI is bs (j + 1) = mpK bs st j t) := by
              show _ = _
              rw [HSC.out, if_neg (fun e => by have := HT.out.2.2.2.2.2 e; omega), show t = 2 by omega]
            go_wp2
            go_roundw
            case rel => exact ⟨sv', j + 1, rfl, by omega, by go_num, by rw [HE.out]; exact ⟨HT.out.1, HT.out.2.1⟩⟩
            case measure => simp [intOf]; omega
          have t1 : (t : Int) < (2 : Int) := by omega
          by_cases hk0 : kj = 0
          · have n1 : (kj != 0) = false := by simp [hk0]
            have HE : Hid (mpI is bs (j + 1) = mpK bs st j t) := by
              show _ = _
              rw [HSC.out, if_pos hk0, HT.out.2.2.2.2.2 hk0]
              rfl
            clear hk0
            go_wp2
            go_roundw
            case rel => exact ⟨sv', j + 1, rfl, by omega, by go_num, by rw [HE.out]; exact ⟨HT.out.1, HT.out.2.1⟩⟩
            case measure => simp [intOf]; omega
          have n1 : (kj != 0) = true := by simp [hk0]
          have HK0 := hide hk0
          clear hk0
          have HPI2 := hide (HPI.out.stepK j t)
          have HSN : Hid (mpK bs st j (t + 1) = stepP bs (mpK bs st j t) j t) := rfl
          have HKJ2 := hide (HKJ.out t)
          obtain ⟨st2, hst2⟩ : ∃ x, mpK bs st j t = x := ⟨_, rfl⟩
          rw [hst2] at HT HPI2 HSN HKJ2
          have hj2 : j < st2.1.length := by have := (diskOk_parts HPI2.out.ok).2.2.1; have := HJ8.out; omega
          have h22 : st2.1[j].2.2.length = 2 := (RX.of_ok HPI2.out.ok).r.two _ (List.getElem_mem hj2)
          have ht2 : t < st2.1[j].2.2.length := by omega
          have HSE := hide (stepP_eq bs st2 j t hj2 ht2)
          rw [HKJ2.out hj2] at HSE
          have hep : (ti.getD j zI3).2.2 = .slice (some ⟨gp, 0, none⟩) st2.1[j].2.2.length cp := by rw [h22]; exact HEP.out
          have HPTR := hide (fun W (hb : Below wr.heap.size wr W) => (HT.out.1.below hb).ptr j hj2 hep t)
          rw [HKJ2.out hj2] at HPTR
          have HCP : Hid (∀ W, Below wr.heap.size wr W → W.cell? ⟨gp, t, none⟩ = some (.int .i64 st2.1[j].2.2[t]) ∧ W.frozen? ⟨gp, t, none⟩ = false ∧ gp < W.heap.size ∧ W.cell? ⟨g3, j * 3 + 2, none⟩ = some (.slice (some ⟨gp, 0, none⟩) 2 cp) ∧ W.cell? ⟨xb, 0, none⟩ = some (.int .i64 kj) ∧ W.cell? ⟨xb, 2, none⟩ = some (.slice (some ⟨gp, 0, none⟩) 2 cp) ∧ AtC W b 34 #[.slice p1 xs.length q1, .slice p2 ys.length q2, .slice (some ⟨g3, 0, none⟩) is.length q3, .slice p4 bs.length q4] ∧ OS w W b n0 #[.slice a1 xs.length c1, .slice a2 ys.length c2, .slice (some ⟨g2, o2, none⟩) is.length c3, .slice a4 bs.length c4] (.slice p1 xs.length q1) (.slice p2 ys.length q2) (.slice (some ⟨g3, 0, none⟩) is.length q3) (.slice p4 bs.length q4) ti tb xs ys st2.1 bs ∧ ROwns W n0 3 sv' (ic st2.2) ∧ AtC W xb 65 #[.int .i64 kj, .int .i64 lj, .slice (some ⟨gp, 0, none⟩) 2 cp]) := fun W hb => by
            have o1 := HT.out.1.below hb
            obtain ⟨g', c', ei, -, -, -, -, -, y2, ro, -⟩ := o1.d.ino j hj2
            simp only [Value.slice.injEq, Option.some.injEq, Addr.mk.injEq] at ei
            obtain ⟨⟨rfl, -⟩, -, -⟩ := ei
            rw [HEP.out] at y2
            rw [hep] at ro
            obtain ⟨g', c', e', k1, f1, -, l1, -⟩ := ro.at t (by rw [ic_length]; exact ht2)
            simp only [Value.slice.injEq, Option.some.injEq, Addr.mk.injEq] at e'
            obtain ⟨⟨rfl, -⟩, -, -⟩ := e'
            have ax := HT.out.2.2.1.over hb
            exact ⟨by rw [k1]; simp [ic, ht2], f1, l1, y2, ax.cell 0, ax.cell 2, o1.o, o1, HT.out.2.1.below hb (Nat.le_refl _), ax⟩
          obtain ⟨pn, hpn⟩ : ∃ x, st2.1[j].2.2[t] = x := ⟨_, rfl⟩
          rw [hpn] at HSE HCP
          have CB := hide (fun (W : World) (hb : Below wr.heap.size wr W) => blkL_any pn (.slice p1 xs.length q1) (.slice p2 ys.length q2) (.slice (some ⟨g3, 0, none⟩) is.length q3) (.slice p4 bs.length q4) ti tb xs ys st2.1 bs _ W (HT.out.1.below hb).d HB16.out)
          obtain ⟨sl, hsl⟩ : ∃ x, slv tb bs pn = x := ⟨_, rfl⟩
          obtain ⟨⟨bd, bss, btx⟩, hBD⟩ : ∃ X, blkAt bs pn = X := ⟨_, rfl⟩
          have HWP : Hid (∀ F, inB pn 1 16 = F → wrongP bs kj pn = (bd != (kj == 2))) := fun F _ => by unfold wrongP; rw [hBD]
          obtain ⟨F, hF⟩ : ∃ F, inB pn 1 16 = F := ⟨_, rfl⟩
          have HWQ := hide (HWP.out F hF)
          rw [hsl, hBD, hF] at CB
          rw [hF, HWQ.out] at HSE
          obtain ⟨wo, hwo⟩ : ∃ wo, wo = wr := ⟨_, rfl⟩
          subst hwo
          have HFR : Hid (∀ k, sv'.ownBlock = some k → k ≠ xb ∧ n0 ≤ k) := fun k hk => ⟨HT.out.2.2.2.1 k hk, (HT.out.2.1.lt k hk).1⟩
          have HXN : Hid (n0 ≤ xb) := HT.out.2.2.2.2.1
          have HSL : Hid (∃ sa sn sc, sl = .slice sa sn sc) := by
            rw [← hsl]
            unfold slv
            split
            · rename_i hin
              obtain ⟨h1, h2⟩ := inB_true hin
              obtain ⟨-, -, -, -, -, -, -, -, so, -⟩ := HT.out.1.d.blk (pn - 1).toNat (by omega)
              obtain ⟨sa, sc, e, -⟩ := so.form
              exact ⟨sa, _, sc, e⟩
            · exact ⟨_, _, _, rfl⟩
          obtain ⟨sa, sn, sc, rfl⟩ := HSL.out
          clear hst2 hpn hBD hF hsl HWP HT h22 HPI HKJ HKQ HEP hep ht2
          go_upto_region 14 with fail
          clear g0 g1
          go_cut [8, 9] from 39 to 93 (fun bv ok wx => ∃ bw : Nat, bv = .pointer (some ⟨bw, 0, none⟩) ∧ ok = .bool F ∧ AtC wx bw 70 #[.bool bd, .slice sa sn sc, .string btx] ∧ Below wo.heap.size wo wx ∧ wo.heap.size ≤ bw)
          case first =>
            refine wp_region_alt (by kernel_rfl) [0, 1, 2, 3, 4, 5, 6, 7, 8, 9, 10] [11, 12] [([0, 1, 2, 3, 4, 5, 6, 7, 8, 10], [[9, 11, 12], [11, 9, 12]])] (fun i => match i with | 0 => .const [] (.agg #[.slice p1 xs.length q1, .slice p2 ys.length q2, .slice (some ⟨g3, 0, none⟩) is.length q3, .slice p4 bs.length q4]) | 1 => .const [] (.pointer (some ⟨xb, 2, none⟩)) | 2 => .const [1] (.slice (some ⟨gp, 0, none⟩) 2 cp) | 3 => .const [] (.int .i64 (t : Int)) | 4 => .const [2, 3] (.pointer (some ⟨gp, t, none⟩)) | 5 => .const [4] (.int .i64 pn) | 6 => MkT2 [0, 5] (BkE (.agg #[.bool bd, .slice sa sn sc, .string btx]) F) BkE.below | 7 => MkMv 6 | 8 => MkFs 7 | 9 => MkSd 7 | 10 => MkW 70 #[.bool false, .slice none 0 0, .string ⟨#[]⟩] | _ => .triv) (fun x => ⟨List.toArray ((Value.agg #[Value.slice a1 xs.length c1, Value.slice a2 ys.length c2, Value.slice (some { block := g2, off := o2 }) is.length c3, Value.slice a4 bs.length c4]) :: (Value.pointer (some { block := w.heap.size, off := 0 })) :: (Value.pointer (some { block := w.heap.size + 1, off := 0 })) :: (Value.pointer (some { block := b, off := 0 })) :: (sv') :: (Value.int IntKind.i64 ↑j) :: (Value.pointer (some { block := xb, off := 0 })) :: (Value.int IntKind.i64 ↑t) :: (x 10) :: (u9) :: (u10) :: (u11) :: (u12) :: (u13) :: (u14) :: (u15) :: (u16) :: (u17) :: (u18) :: (u19) :: (u20) :: (u21) :: (u22) :: (u23) :: (u24) :: (u25) :: (Value.slice (some { block := n0, off := 0 }) 0 0) :: (Value.int IntKind.i64 ↑j) :: (Value.pointer (some { block := b, off := 2 })) :: (Value.slice (some { block := g3, off := 0 }) is.length q3) :: (Value.int IntKind.i64 ↑is.length) :: (Value.bool true) :: (u32) :: (u33) :: (Value.pointer (some { block := b, off := 2 })) :: (Value.slice (some { block := g3, off := 0 }) is.length q3) :: (Value.int IntKind.i64 ↑j) :: (Value.pointer (some { block := g3, off := j * 3 })) :: (Value.agg #[Value.int IntKind.i64 kj, Value.int IntKind.i64 lj, Value.slice (some { block := gp, off := 0 }) 2 cp]) :: (Value.int IntKind.i64 ↑t) :: (Value.pointer (some { block := xb, off := 2 })) :: (Value.slice (some { block := gp, off := 0 }) 2 cp) :: (Value.int IntKind.i64 2) :: (Value.bool true) :: (Value.bool true) :: (Value.pointer (some { block := xb, off := 0 })) :: (Value.int IntKind.i64 kj) :: (Value.bool true) :: (Value.bool true) :: (u49) :: (u50) :: (x 7) :: (x 0) :: (x 1) :: (x 2) :: (x 3) :: (x 4) :: (x 5) :: (x 6) :: (x 8) :: (x 9) :: (u61) :: (u62) :: (u63) :: (u64) :: (u65) :: (u66) :: (u67) :: (u68) :: (u69) :: (u70) :: (u71) :: (u72) :: (u73) :: (u74) :: (u75) :: (u76) :: (u77) :: (u78) :: (u79) :: (u80) :: (u81) :: (u82) :: (u83) :: (u84) :: (u85) :: (u86) :: (u87) :: (u88) :: (u89) :: (u90) :: (u91) :: (u92) :: (u93) :: (undef) :: []), []⟩) (fun i => match i with | 0 => u52 | 1 => u53 | 2 => u54 | 3 => u55 | 4 => u56 | 5 => u57 | 6 => u58 | 7 => u51 | 8 => u59 | 9 => u60 | 10 => u8 | _ => undef) rfl (makersOk2_of (by kernel_rfl) (by kernel_rfl)) (by kernel_rfl) (by kernel_rfl) (by kernel_rfl) rfl ?_ ?_ ?_
            · intro jo hj so x iw W hd hp K hK
              simp only [List.mem_cons, List.not_mem_nil, or_false] at hj
              rcases hj with rfl | rfl | rfl | rfl | rfl | rfl | rfl | rfl | rfl | rfl | rfl
              · refine wpOp_step (o := _) rfl fun K' hK' => ?_
                have HK := hide (fun (v : Value) (W' : World) h1 h2 => hK' _ _ (hK v W' h1 h2))
                simp only [upd, Nat.reduceEqDiff, if_true, if_false] at HK
                have bw := of_drew hp.bel
                have k0 := (HCP.out W bw).2.2.2.2.2.2.1
                have q09 : W.cell? ⟨b, 0, none⟩ = some (.slice p1 xs.length q1) := k0.cell 0
                have q19 : W.cell? ⟨b, 1, none⟩ = some (.slice p2 ys.length q2) := k0.cell 1
                have q29 : W.cell? ⟨b, 2, none⟩ = some (.slice (some ⟨g3, 0, none⟩) is.length q3) := k0.cell 2
                have q39 : W.cell? ⟨b, 3, none⟩ = some (.slice p4 bs.length q4) := k0.cell 3
                clear k0 bw
                clear hK hK' hp hd
                go_simp
                exact HK.out _ _ (Below.refl _ _) rfl
              · refine wpOp_step (o := _) rfl fun K' hK' => ?_
                have HK := hide (fun (v : Value) (W' : World) h1 h2 => hK' _ _ (hK v W' h1 h2))
                simp only [upd, Nat.reduceEqDiff, if_true, if_false] at HK
                clear hK hK' hp hd
                go_simp
                exact HK.out _ _ (Below.refl _ _) rfl
              · refine wpOp_step (o := _) rfl fun K' hK' => ?_
                have HK := hide (fun (v : Value) (W' : World) h1 h2 => hK' _ _ (hK v W' h1 h2))
                simp only [upd, Nat.reduceEqDiff, if_true, if_false] at HK
                have e1 : x 1 = .pointer (some ⟨xb, 2, none⟩) := hp.post 1 (hd 1 (show 1 ∈ [1] from by decide))
                have bw := of_drew hp.bel
                have q5 := (HCP.out W bw).2.2.2.2.2.1
                clear bw
                clear hK hK' hp hd
                simp only [e1] at HK ⊢
                go_simp
                exact HK.out _ _ (Below.refl _ _) rfl
              · refine wpOp_step (o := _) rfl fun K' hK' => ?_
                have HK := hide (fun (v : Value) (W' : World) h1 h2 => hK' _ _ (hK v W' h1 h2))
                simp only [upd, Nat.reduceEqDiff, if_true, if_false] at HK
                clear hK hK' hp hd
                go_simp
                exact HK.out _ _ (Below.refl _ _) rfl
              · refine wpOp_step (o := _) rfl fun K' hK' => ?_
                have HK := hide (fun (v : Value) (W' : World) h1 h2 => hK' _ _ (hK v W' h1 h2))
                simp only [upd, Nat.reduceEqDiff, if_true, if_false] at HK
                have e2 : x 2 = .slice (some ⟨gp, 0, none⟩) 2 cp := hp.post 2 (hd 2 (show 2 ∈ [2, 3] from by decide))
                have e3 : x 3 = .int .i64 (t : Int) := hp.post 3 (hd 3 (show 3 ∈ [2, 3] from by decide))
                clear hK hK' hp hd
                simp only [e2, e3] at HK ⊢
                go_simp
                exact HK.out _ _ (Below.refl _ _) rfl
              · refine wpOp_step (o := _) rfl fun K' hK' => ?_
                have HK := hide (fun (v : Value) (W' : World) h1 h2 => hK' _ _ (hK v W' h1 h2))
                simp only [upd, Nat.reduceEqDiff, if_true, if_false] at HK
                have e4 : x 4 = .pointer (some ⟨gp, t, none⟩) := hp.post 4 (hd 4 (show 4 ∈ [4] from by decide))
                have bw := of_drew hp.bel
                have q5 := (HCP.out W bw).1
                clear bw
                clear hK hK' hp hd
                simp only [e4] at HK ⊢
                go_simp
                exact HK.out _ _ (Below.refl _ _) rfl
              · refine wpOp_step (o := _) rfl fun K' hK' => ?_
                have HK := hide (fun (v : Value) (W' : World) h1 h2 => hK' _ _ (hK v W' h1 h2))
                simp only [upd, Nat.reduceEqDiff, if_true, if_false] at HK
                have e0 : x 0 = .agg #[.slice p1 xs.length q1, .slice p2 ys.length q2, .slice (some ⟨g3, 0, none⟩) is.length q3, .slice p4 bs.length q4] := hp.post 0 (hd 0 (show 0 ∈ [0, 5] from by decide))
                have e5 : x 5 = .int .i64 pn := hp.post 5 (hd 5 (show 5 ∈ [0, 5] from by decide))
                have dr := of_drew hp.bel
                clear hK hK' hp hd
                simp only [e0, e5] at HK ⊢
                clear e0 e5
                go_simp
                refine (CB.out W dr).mono ?_
                rintro e w6 ⟨rfl, B6⟩
                go_simp
                exact HK.out _ _ B6 ⟨_, _, rfl, rfl, rfl⟩
              · refine wpOp_step (o := _) rfl fun K' hK' => ?_
                have HK := hide (fun (v : Value) (W' : World) h1 h2 => hK' _ _ (hK v W' h1 h2))
                simp only [upd, Nat.reduceEqDiff, if_true, if_false] at HK
                have e6 : ∃ a r, x 6 = .tuple #[a, r] ∧ BkE (.agg #[.bool bd, .slice sa sn sc, .string btx]) F (iw 6).1 (iw 6).2 W a r := hp.post 6 (hd 6 (show 6 ∈ [6] from by decide))
                clear hK hK' hp hd
                obtain ⟨a, r, e6, -⟩ := e6
                have ea := hide e6
                simp only [e6] at HK ⊢
                clear e6
                go_simp
                exact HK.out _ _ (Below.refl _ _) ⟨ea.out, a, r, rfl⟩
              · refine wpOp_step (o := _) rfl fun K' hK' => ?_
                have HK := hide (fun (v : Value) (W' : World) h1 h2 => hK' _ _ (hK v W' h1 h2))
                simp only [upd, Nat.reduceEqDiff, if_true, if_false] at HK
                have e7 : x 6 = x 7 ∧ ∃ a r, x 7 = .tuple #[a, r] := hp.post 7 (hd 7 (show 7 ∈ [7] from by decide))
                clear hK hK' hp hd
                obtain ⟨-, a, r, e7⟩ := e7
                have ea : Hid (a = fstOf (x 7)) := by rw [e7]; rfl
                simp only [e7] at HK ⊢
                clear e7
                go_simp
                exact HK.out _ _ (Below.refl _ _) ea.out
              · refine wpOp_step (o := _) rfl fun K' hK' => ?_
                have HK := hide (fun (v : Value) (W' : World) h1 h2 => hK' _ _ (hK v W' h1 h2))
                simp only [upd, Nat.reduceEqDiff, if_true, if_false] at HK
                have e7 : x 6 = x 7 ∧ ∃ a r, x 7 = .tuple #[a, r] := hp.post 7 (hd 7 (show 7 ∈ [7] from by decide))
                clear hK hK' hp hd
                obtain ⟨-, a, r, e7⟩ := e7
                have ea : Hid (r = sndOf (x 7)) := by rw [e7]; rfl
                simp only [e7] at HK ⊢
                clear e7
                go_simp
                exact HK.out _ _ (Below.refl _ _) ea.out
              · refine wpOp_step (o := _) rfl fun K' hK' => ?_
                have HK := hide (fun (v : Value) (W' : World) h1 h2 => hK' _ _ (hK v W' h1 h2))
                simp only [upd, Nat.reduceEqDiff, if_true, if_false] at HK
                clear hK hK' hp hd
                go_simp
                exact HK.out _ _ ((Below.refl _ W).alloc (Nat.le_refl _) _) ⟨rfl, by simp, AtC.new W 70 _⟩
            · intro x iw W hp
              obtain ⟨a, r, e6, R6⟩ := hp.post 6 (by decide)
              obtain ⟨e7, -⟩ := hp.post 7 (by decide)
              have e8 : x 8 = fstOf (x 7) := hp.post 8 (by decide)
              have e9 : x 9 = sndOf (x 7) := hp.post 9 (by decide)
              obtain ⟨e10, z10, A10⟩ := hp.post 10 (by decide)
              have l10 := hp.lo 10 (by decide)
              have lc := hp.lo 6 (by decide)
              have bel := of_drew hp.bel
              have ap := hp.apart 6 (by decide) 10 (by decide) (by decide)
              rw [← e7, e6] at e8
              rw [← e7, e6] at e9
              replace e9 : x 9 = r := e9
              rw [e6] at e7
              replace e7 := e7.symm
              replace e8 : x 8 = a := e8
              have y0 : W.cell? ⟨(iw 10).1, 0, none⟩ = some (.bool false) := A10.cell 0
              have f0 := A10.frozen 0
              have y1 : W.cell? ⟨(iw 10).1, 1, none⟩ = some (.slice none 0 0) := A10.cell 1
              have f1 := A10.frozen 1
              have y2 : W.cell? ⟨(iw 10).1, 2, none⟩ = some (.string ⟨#[]⟩) := A10.cell 2
              have f2 := A10.frozen 2
              obtain ⟨rfl, rfl⟩ := R6
              have hb10 : wo.heap.size ≤ (iw 10).1 := l10.1
              have HFI : Hid (AtC W (iw 10).1 70 #[.bool false, .slice none 0 0, .string ⟨#[]⟩] ∧ Below wo.heap.size wo W ∧ wo.heap.size ≤ (iw 10).1) := ⟨A10, bel, hb10⟩
              clear hp A10 bel ap lc l10 z10 hb10
              simp only [e7, e8, e10, e9] at *
              generalize (iw 10).1 = bw at *
              go_wp2_with fail
              try rw [List.filterMap_nil]
              try go_wp2_with fail
              go_meet
              exact ⟨bw, rfl, rfl, ((HFI.out.1.set 0 _).set 1 _).set 2 _, ((HFI.out.2.1.setCell (p := ⟨bw, 0, none⟩) HFI.out.2.2 _).setCell (p := ⟨bw, 1, none⟩) HFI.out.2.2 _).setCell (p := ⟨bw, 2, none⟩) HFI.out.2.2 _, HFI.out.2.2⟩
            · intro qa hqa l hl x iw W hp
              simp only [List.mem_cons, List.not_mem_nil, or_false] at hqa
              subst hqa
              simp only [List.mem_cons, List.not_mem_nil, or_false] at hl
              obtain ⟨a, r, e6, R6⟩ := hp.post 6 (by decide)
              obtain ⟨e7, -⟩ := hp.post 7 (by decide)
              have e8 : x 8 = fstOf (x 7) := hp.post 8 (by decide)
              obtain ⟨e10, z10, A10⟩ := hp.post 10 (by decide)
              have l10 := hp.lo 10 (by decide)
              have lc := hp.lo 6 (by decide)
              have bel := of_drew hp.bel
              have ap := hp.apart 6 (by decide) 10 (by decide) (by decide)
              rw [← e7, e6] at e8
              rw [e6] at e7
              replace e7 := e7.symm
              replace e8 : x 8 = a := e8
              have y0 : W.cell? ⟨(iw 10).1, 0, none⟩ = some (.bool false) := A10.cell 0
              have f0 := A10.frozen 0
              have y1 : W.cell? ⟨(iw 10).1, 1, none⟩ = some (.slice none 0 0) := A10.cell 1
              have f1 := A10.frozen 1
              have y2 : W.cell? ⟨(iw 10).1, 2, none⟩ = some (.string ⟨#[]⟩) := A10.cell 2
              have f2 := A10.frozen 2
              obtain ⟨rfl, rfl⟩ := R6
              have hb10 : wo.heap.size ≤ (iw 10).1 := l10.1
              have HFI : Hid (AtC W (iw 10).1 70 #[.bool false, .slice none 0 0, .string ⟨#[]⟩] ∧ Below wo.heap.size wo W ∧ wo.heap.size ≤ (iw 10).1) := ⟨A10, bel, hb10⟩
              clear hp A10 bel ap lc l10 z10 hb10
              simp only [e7, e8, e10] at *
              generalize (iw 10).1 = bw at *
              rcases hl with rfl | rfl
              · go_wp2_with fail
                try rw [List.filterMap_nil]
                try go_wp2_with fail
                go_meet
                exact ⟨bw, rfl, rfl, ((HFI.out.1.set 0 _).set 1 _).set 2 _, ((HFI.out.2.1.setCell (p := ⟨bw, 0, none⟩) HFI.out.2.2 _).setCell (p := ⟨bw, 1, none⟩) HFI.out.2.2 _).setCell (p := ⟨bw, 2, none⟩) HFI.out.2.2 _, HFI.out.2.2⟩
              · go_wp2_with fail
                try rw [List.filterMap_nil]
                try go_wp2_with fail
                go_meet
                exact ⟨bw, rfl, rfl, ((HFI.out.1.set 0 _).set 1 _).set 2 _, ((HFI.out.2.1.setCell (p := ⟨bw, 0, none⟩) HFI.out.2.2 _).setCell (p := ⟨bw, 1, none⟩) HFI.out.2.2 _).setCell (p := ⟨bw, 2, none⟩) HFI.out.2.2 _, HFI.out.2.2⟩
          case rest =>
            obtain ⟨bw, rfl, rfl, Aw, Bw, lw⟩ := hcut
            obtain ⟨k1, f1, l1, k2, k3, k4, ab, o4, s4, ax⟩ := HCP.out wc Bw
            have HREL := hide (And.intro o4 (And.intro s4 ax))
            have HK0' : Hid (kj = 0 → t + 1 = 0) := fun e => absurd e HK0.out
            have hgn : gp < n0 := (HPTR.out wc Bw).2.1
            have HP1 := hide (HPTR.out wc Bw).1
            have b0 : wc.cell? ⟨bw, 0, none⟩ = some (.bool bd) := Aw.cell 0
            have ob2 : wc.cell? ⟨b, 2, none⟩ = some (.slice (some ⟨g3, 0, none⟩) is.length q3) := ab.cell 2
            have HSTO : Hid (OS w (wc.setCell ⟨gp, t, none⟩ (.int .i64 0)) b n0 #[.slice a1 xs.length c1, .slice a2 ys.length c2, .slice (some ⟨g2, o2, none⟩) is.length c3, .slice a4 bs.length c4] (.slice p1 xs.length q1) (.slice p2 ys.length q2) (.slice (some ⟨g3, 0, none⟩) is.length q3) (.slice p4 bs.length q4) ti tb xs ys (st2.1.set j (kj, st2.1[j].2.1, st2.1[j].2.2.set t 0)) bs ∧ ROwns (wc.setCell ⟨gp, t, none⟩ (.int .i64 0)) n0 3 sv' (ic st2.2) ∧ AtC (wc.setCell ⟨gp, t, none⟩ (.int .i64 0)) xb 65 #[.int .i64 kj, .int .i64 lj, .slice (some ⟨gp, 0, none⟩) 2 cp]) := ⟨HP1.out, s4.setCell_other hgn _, ax.other (by have := HXN.out; omega) _⟩
            have hsl16 := HPI2.out.len
            clear Aw Bw lw ab o4 s4 ax HCP HPTR CB HP1
            cases F with
            | false =>
              have HE : Hid (mpK bs st j (t + 1) = st2) := by show _ = _; rw [HSN.out, HSE.out]; rfl
              go_wp2
              go_roundw
              case rel => exact ⟨sv', t + 1, rfl, by omega, by go_num, by rw [HE.out]; exact ⟨HREL.out.1, HREL.out.2.1, HREL.out.2.2, fun k hk => (HFR.out k hk).1, HXN.out, HK0'.out⟩⟩
              case measure => simp [intOf]; omega
            | true =>
              rw [if_pos rfl] at HSE
              obtain ⟨kb, hkb⟩ : ∃ x, (kj == 2) = x := ⟨_, rfl⟩
              rw [hkb] at HSE
              cases bd with
              | true =>
                cases kb with
                | true =>
                  have HSF : Hid (stepP bs st2 j t = if st2.2.contains pn = true then (st2.1.set j (kj, st2.1[j].2.1, st2.1[j].2.2.set t 0), st2.2) else (st2.1, st2.2 ++ [pn])) := HSE.out
                  clear HSE
                  have HSE := HSF
                  have CH := hide (has10_any sv' st2.2 pn wc HREL.out.2.1.rints (by omega))
                  go_wp2_with fail
                  refine CH.out.mono ?_
                  rintro e w7 ⟨rfl, rfl⟩
                  cases hc : st2.2.contains pn with
                  | true =>
                    rw [hc, if_pos rfl] at HSE
                    go_wp2
                    go_roundw
                    case rel => exact ⟨sv', t + 1, rfl, by omega, by go_num, by rw [HSN.out, HSE.out]; exact ⟨HSTO.out.1, HSTO.out.2.1, HSTO.out.2.2, fun k hk => (HFR.out k hk).1, HXN.out, HK0'.out⟩⟩
                    case measure => simp [intOf]; omega
                  | false =>
                    rw [hc, if_neg (by decide)] at HSE
                    have HAL : Hid (Below w7.heap.size w7 (w7.alloc (.cells #[.int .i64 pn] 3)) ∧ ROwns (w7.alloc (.cells #[.int .i64 pn] 3)) n0 3 sv' (ic st2.2) ∧ n0 ≤ (w7.alloc (.cells #[.int .i64 pn] 3)).heap.size ∧ (w7.alloc (.cells #[.int .i64 pn] 3)).cell? ⟨w7.heap.size, 0, none⟩ = some (.int .i64 pn)) := ⟨(Below.refl _ w7).alloc (Nat.le_refl _) _, HREL.out.2.1.alloc _, by have := HREL.out.1.nn; simp; omega, (AtC.new w7 3 _).cell 0⟩
                    have HTL : Hid ((ic st2.2).length ≤ 100000000000) := by show _ ≤ _; rw [ic_length]; omega
                    have HXL : Hid (xb < w7.heap.size) := HREL.out.2.2.lt
                    clear hc f1 k2 k3 b0 ob2
                    go_wp2_with (at_builtin; refine wpList_step fun K' hK' => ?_; refine step_append_one _ rfl (.tmp 86) (.tmp 92) 56 rfl n0 3 Tryz.u56 _ 8 Tryz.i3 rfl (by decide) sv' _ rfl HAL.out.2.1 HAL.out.2.2.1 w7.heap.size (.int .i64 pn) rfl HAL.out.2.2.2 rfl HTL.out ?_; intro v9 w9 T9 G9 V9; refine hK' _ _ ?_; have HR9 : Hid (OS w w9 b n0 #[.slice a1 xs.length c1, .slice a2 ys.length c2, .slice (some ⟨g2, o2, none⟩) is.length c3, .slice a4 bs.length c4] (.slice p1 xs.length q1) (.slice p2 ys.length q2) (.slice (some ⟨g3, 0, none⟩) is.length q3) (.slice p4 bs.length q4) ti tb xs ys st2.1 bs ∧ ROwns w9 n0 3 v9 (ic (st2.2 ++ [pn])) ∧ AtC w9 xb 65 #[.int .i64 kj, .int .i64 lj, .slice (some ⟨gp, 0, none⟩) 2 cp] ∧ (∀ k, v9.ownBlock = some k → k ≠ xb) ∧ n0 ≤ xb ∧ (kj = 0 → t + 1 = 0)) := ⟨(HREL.out.1.below HAL.out.1).grown G9 (fun k hk => (HFR.out k hk).2), by rw [show ic (st2.2 ++ [pn]) = ic st2.2 ++ [.int .i64 pn] by simp [ic]]; exact T9, (HREL.out.2.2.over HAL.out.1).grown G9 (fun e => (HFR.out _ e).1 rfl), fun k hk => (V9 k hk).elim (fun e => (HFR.out k e).1) (fun e => by have := HXL.out; simp at e; omega), HXN.out, HK0'.out⟩; clear T9 G9 V9 hK')
                    go_roundw
                    case rel => exact ⟨v9, t + 1, rfl, by omega, by go_num, by rw [HSN.out, HSE.out]; exact HR9.out⟩
                    case measure => simp [intOf]; omega
                | false =>
                  rw [if_pos (by rfl)] at HSE
                  go_wp2
                  go_roundw
                  case rel => exact ⟨sv', t + 1, rfl, by omega, by go_num, by rw [HSN.out, HSE.out]; exact ⟨HSTO.out.1, HSTO.out.2.1, HSTO.out.2.2, fun k hk => (HFR.out k hk).1, HXN.out, HK0'.out⟩⟩
                  case measure => simp [intOf]; omega
              | false =>
                cases kb with
                | true =>
                  rw [if_pos (by rfl)] at HSE
                  go_wp2
                  go_roundw
                  case rel => exact ⟨sv', t + 1, rfl, by omega, by go_num, by rw [HSN.out, HSE.out]; exact ⟨HSTO.out.1, HSTO.out.2.1, HSTO.out.2.2, fun k hk => (HFR.out k hk).1, HXN.out, HK0'.out⟩⟩
                  case measure => simp [intOf]; omega
                | false =>
                  have HSF : Hid (stepP bs st2 j t = if st2.2.contains pn = true then (st2.1.set j (kj, st2.1[j].2.1, st2.1[j].2.2.set t 0), st2.2) else (st2.1, st2.2 ++ [pn])) := HSE.out
                  clear HSE
                  have HSE := HSF
                  have CH := hide (has10_any sv' st2.2 pn wc HREL.out.2.1.rints (by omega))
                  go_wp2_with fail
                  refine CH.out.mono ?_
                  rintro e w7 ⟨rfl, rfl⟩
                  cases hc : st2.2.contains pn with
                  | true =>
                    rw [hc, if_pos rfl] at HSE
                    go_wp2
                    go_roundw
                    case rel => exact ⟨sv', t + 1, rfl, by omega, by go_num, by rw [HSN.out, HSE.out]; exact ⟨HSTO.out.1, HSTO.out.2.1, HSTO.out.2.2, fun k hk => (HFR.out k hk).1, HXN.out, HK0'.out⟩⟩
                    case measure => simp [intOf]; omega
                  | false =>
                    rw [hc, if_neg (by decide)] at HSE
                    have HAL : Hid (Below w7.heap.size w7 (w7.alloc (.cells #[.int .i64 pn] 3)) ∧ ROwns (w7.alloc (.cells #[.int .i64 pn] 3)) n0 3 sv' (ic st2.2) ∧ n0 ≤ (w7.alloc (.cells #[.int .i64 pn] 3)).heap.size ∧ (w7.alloc (.cells #[.int .i64 pn] 3)).cell? ⟨w7.heap.size, 0, none⟩ = some (.int .i64 pn)) := ⟨(Below.refl _ w7).alloc (Nat.le_refl _) _, HREL.out.2.1.alloc _, by have := HREL.out.1.nn; simp; omega, (AtC.new w7 3 _).cell 0⟩
                    have HTL : Hid ((ic st2.2).length ≤ 100000000000) := by show _ ≤ _; rw [ic_length]; omega
                    have HXL : Hid (xb < w7.heap.size) := HREL.out.2.2.lt
                    clear hc f1 k2 k3 b0 ob2
                    go_wp2_with (at_builtin; refine wpList_step fun K' hK' => ?_; refine step_append_one _ rfl (.tmp 86) (.tmp 92) 56 rfl n0 3 Tryz.u56 _ 8 Tryz.i3 rfl (by decide) sv' _ rfl HAL.out.2.1 HAL.out.2.2.1 w7.heap.size (.int .i64 pn) rfl HAL.out.2.2.2 rfl HTL.out ?_; intro v9 w9 T9 G9 V9; refine hK' _ _ ?_; have HR9 : Hid (OS w w9 b n0 #[.slice a1 xs.length c1, .slice a2 ys.length c2, .slice (some ⟨g2, o2, none⟩) is.length c3, .slice a4 bs.length c4] (.slice p1 xs.length q1) (.slice p2 ys.length q2) (.slice (some ⟨g3, 0, none⟩) is.length q3) (.slice p4 bs.length q4) ti tb xs ys st2.1 bs ∧ ROwns w9 n0 3 v9 (ic (st2.2 ++ [pn])) ∧ AtC w9 xb 65 #[.int .i64 kj, .int .i64 lj, .slice (some ⟨gp, 0, none⟩) 2 cp] ∧ (∀ k, v9.ownBlock = some k → k ≠ xb) ∧ n0 ≤ xb ∧ (kj = 0 → t + 1 = 0)) := ⟨(HREL.out.1.below HAL.out.1).grown G9 (fun k hk => (HFR.out k hk).2), by rw [show ic (st2.2 ++ [pn]) = ic st2.2 ++ [.int .i64 pn] by simp [ic]]; exact T9, (HREL.out.2.2.over HAL.out.1).grown G9 (fun e => (HFR.out _ e).1 rfl), fun k hk => (V9 k hk).elim (fun e => (HFR.out k e).1) (fun e => by have := HXL.out; simp at e; omega), HXN.out, HK0'.out⟩; clear T9 G9 V9 hK')
                    go_roundw
                    case rel => exact ⟨v9, t + 1, rfl, by omega, by go_num, by rw [HSN.out, HSE.out]; exact HR9.out⟩
                    case measure => simp [intOf]; omega
end Go.Proofs.YtbebgnknjoclkaaGreat
/- Titles (a number and a pointer each): how they lie in memory; appends. No Go function is spoken of. -/
namespace Go.Proofs.YtbebgnknjoclkaaGreat.Kit
open Go.RowKit
/-- A title: its directory, where its slot lies. -/
abbrev Pa := Int × Addr
/-- Pointers as cells, two each. -/
def qc : List Pa → List Value
  | [] => []
  | s :: r => .int .i64 s.1 :: .pointer (some s.2) :: qc r
theorem qc_length (xs : List Pa) : (qc xs).length = xs.length * 2 := by
  induction xs with
  | nil => rfl
  | cons s r ih => simp [qc, ih]; omega
theorem qc_append (a b : List Pa) : qc (a ++ b) = qc a ++ qc b := by
  induction a with
  | nil => rfl
  | cons s r ih => simp [qc, ih]
theorem qc_name (xs : List Pa) (j : Nat) (h : j < xs.length) : (qc xs)[j * 2]? = some (.int .i64 xs[j].1) := by
  induction xs generalizing j with
  | nil => simp at h
  | cons s r ih =>
    cases j with
    | zero => rfl
    | succ j =>
      rw [show (j + 1) * 2 = j * 2 + 1 + 1 by omega]
      simp only [qc, List.getElem?_cons_succ, List.getElem_cons_succ]
      exact ih j (by simpa using h)
theorem qc_ino (xs : List Pa) (j : Nat) (h : j < xs.length) : (qc xs)[j * 2 + 1]? = some (.pointer (some xs[j].2)) := by
  induction xs generalizing j with
  | nil => simp at h
  | cons s r ih =>
    cases j with
    | zero => rfl
    | succ j =>
      rw [show (j + 1) * 2 + 1 = j * 2 + 1 + 1 + 1 by omega]
      simp only [qc, List.getElem?_cons_succ, List.getElem_cons_succ]
      exact ih j (by simpa using h)
/-- The slice value v owns the pointers xs (element type e), in blocks from 'base' on. -/
def QOwns (w : World) (base : Nat) (e : TypeId) (v : Value) (xs : List Pa) : Prop := w.ownsRow base e 2 v xs.length (qc xs)
theorem QOwns.alloc {w : World} {base : Nat} {e : TypeId} {v : Value} {l : List Pa} (h : QOwns w base e v l) (o : Obj) : QOwns (w.alloc o) base e v l := World.ownsRow.alloc h o
theorem QOwns.drew {w : World} {base : Nat} {e : TypeId} {v : Value} {l : List Pa} (h : QOwns w base e v l) : QOwns w.drew base e v l := World.ownsRow.drew h
theorem QOwns.nil (w : World) (base : Nat) (e : TypeId) : QOwns w base e (.slice none 0 0) [] := World.ownsRow_nil _ _ _ _
theorem QOwns.lit (w : World) (base : Nat) (e : TypeId) (cs : Array Value) (xs : List Pa) (hc : cs.toList = qc xs) (hb : base ≤ w.heap.size) (hm : xs.length ≤ maxLen) : QOwns (w.alloc (.cells cs e)) base e (.slice (some ⟨w.heap.size, 0, none⟩) xs.length xs.length) xs := by
  have h1 : cs.size = xs.length * 2 := by rw [← Array.length_toList, hc, qc_length]
  have := World.ownsRow_lit (base := base) (e := e) (size := 2) w cs xs.length hb hm h1
  unfold QOwns
  rwa [hc] at this
theorem QOwns.lt {w : World} {base : Nat} {e : TypeId} {v : Value} {l : List Pa} (h : QOwns w base e v l) : ∀ k, v.ownBlock = some k → base ≤ k ∧ k < w.heap.size := World.ownsRow.lt h
theorem QOwns.base_le {w : World} {base base' : Nat} {e : TypeId} {v : Value} {l : List Pa} (h : QOwns w base e v l) (hb : base' ≤ base) : QOwns w base' e v l := by
  refine ⟨h.1, ?_⟩
  rcases h.2 with h1 | ⟨g, cap, cur, h1, h2, h3⟩
  · exact .inl h1
  · exact .inr ⟨g, cap, cur, h1, by omega, h3⟩
theorem QOwns.form {w : World} {base : Nat} {e : TypeId} {v : Value} {l : List Pa} (h : QOwns w base e v l) : ∃ a cap, v = .slice a l.length cap ∧ (a = none → l = []) := by
  rcases h.2 with ⟨rfl, h0⟩ | ⟨g, cap, cur, rfl, _⟩
  · exact ⟨none, 0, by rw [h0], fun _ => List.length_eq_zero_iff.1 h0⟩
  · exact ⟨_, _, rfl, fun h => by cases h⟩
theorem QOwns.of_heap {w w' : World} {base : Nat} {e : TypeId} {v : Value} {l : List Pa} (h : QOwns w base e v l) (hh : ∀ k, v.ownBlock = some k → w'.heap[k]? = w.heap[k]?) : QOwns w' base e v l := by
  refine ⟨h.1, ?_⟩
  rcases h.2 with h1 | ⟨g, cap, cur, h1, h2, h3, h4⟩
  · exact .inl h1
  · exact .inr ⟨g, cap, cur, h1, h2, by rw [hh g (by rw [h1]; rfl), h3], h4⟩
theorem QOwns.below {w w' : World} {base B : Nat} {e : TypeId} {v : Value} {l : List Pa} (h : QOwns w base e v l) (hb : Below B w w') (hB : w.heap.size ≤ B) : QOwns w' base e v l :=
  h.of_heap fun k hk => hb.block k (by have := (h.lt k hk).2; omega)
theorem QOwns.grown {w w' : World} {base : Nat} {e : TypeId} {v : Value} {l : List Pa} {row : Option Nat} (h : QOwns w base e v l) (hg : w.grownBy w' row) (hn : ∀ k, v.ownBlock = some k → row ≠ some k) : QOwns w' base e v l :=
  h.of_heap fun k hk => hg.block k (h.lt k hk).2 (fun e => hn k hk e.symm)
theorem QOwns.setCell_other {w : World} {base : Nat} {e : TypeId} {v : Value} {l : List Pa} (h : QOwns w base e v l) {b j : Nat} (hp : v.ownBlock ≠ some b) (x : Value) : QOwns (w.setCell ⟨b, j, none⟩ x) base e v l :=
  h.of_heap fun k hk => heap_setCell_other w ⟨b, j, none⟩ k x (fun e => by simp at e; subst e; exact hp hk)
theorem QOwns.setCell_low {w : World} {base : Nat} {e : TypeId} {v : Value} {l : List Pa} (h : QOwns w base e v l) {b j : Nat} (hp : b < base) (x : Value) : QOwns (w.setCell ⟨b, j, none⟩ x) base e v l :=
  h.setCell_other (fun e => by have := (h.lt b e).1; omega) x
/-- Where the cells of what is owned lie. -/
theorem QOwns.at {w : World} {base : Nat} {e : TypeId} {v : Value} {l : List Pa} (h : QOwns w base e v l) (k : Nat) (hk : k < l.length) :
    ∃ g cap, v = .slice (some ⟨g, 0, none⟩) l.length cap ∧ w.cell? ⟨g, k * 2, none⟩ = some (.int .i64 l[k].1) ∧ w.cell? ⟨g, k * 2 + 1, none⟩ = some (.pointer (some l[k].2)) ∧ (∀ j, w.frozen? ⟨g, j, none⟩ = false) ∧ base ≤ g ∧ g < w.heap.size ∧ l.length ≤ cap := by
  have hlt := h.lt
  rcases h.2 with ⟨h1, h0⟩ | ⟨g, cap, cur, rfl, h2, h3, h4, h5, h6, h7⟩
  · omega
  · have h' : w.ownsRow base e 2 (.slice (some ⟨g, 0, none⟩) l.length cap) l.length (qc l) := h
    exact ⟨g, cap, rfl, (h'.cellAt _ (by omega)).trans (qc_name l k hk), (h'.cellAt _ (by omega)).trans (qc_ino l k hk), h'.frozenAt, h2, (hlt g rfl).2, h4⟩
/-- The slice value v reads as the pointers xs. -/
def RPa (w : World) (v : Value) (xs : List Pa) : Prop := ∃ a cap, v = .slice a xs.length cap ∧ xs.length ≤ cap ∧ ∀ (j : Nat) (h : j < xs.length), ∃ g off, a = some ⟨g, off, none⟩ ∧ g < w.heap.size ∧ w.cell? ⟨g, off + j * 2, none⟩ = some (.int .i64 xs[j].1) ∧ w.cell? ⟨g, off + j * 2 + 1, none⟩ = some (.pointer (some xs[j].2))
theorem RPa.below {w w' : World} {B : Nat} {v : Value} {xs : List Pa} (h : RPa w v xs) (hb : Below B w w') (hB : w.heap.size ≤ B) : RPa w' v xs := by
  obtain ⟨a, cap, rfl, hcap, h⟩ := h
  refine ⟨a, cap, rfl, hcap, fun j hj => ?_⟩
  obtain ⟨g, off, e, hg, hc, hd⟩ := h j hj
  exact ⟨g, off, e, Nat.lt_of_lt_of_le hg hb.size, (hb.cell (p := ⟨g, off + j * 2, none⟩) (Nat.lt_of_lt_of_le hg hB)).trans hc, (hb.cell (p := ⟨g, off + j * 2 + 1, none⟩) (Nat.lt_of_lt_of_le hg hB)).trans hd⟩
theorem RPa.alloc {w : World} {v : Value} {xs : List Pa} (h : RPa w v xs) (o : Obj) : RPa (w.alloc o) v xs := h.below ((Below.refl _ w).alloc (Nat.le_refl _) o) (Nat.le_refl _)
theorem RPa.drew {w : World} {v : Value} {xs : List Pa} (h : RPa w v xs) : RPa w.drew v xs := h
theorem RPa.form {w : World} {v : Value} {xs : List Pa} (h : RPa w v xs) : ∃ a c, v = .slice a xs.length c := by
  obtain ⟨a, c, h, _⟩ := h
  exact ⟨a, c, h⟩
theorem QOwns.rpa {w : World} {base : Nat} {e : TypeId} {v : Value} {xs : List Pa} (h : QOwns w base e v xs) : RPa w v xs := by
  rcases h.2 with ⟨rfl, h0⟩ | ⟨g, cap, cur, rfl, _, _, hcap, _⟩
  · have : xs = [] := List.length_eq_zero_iff.1 h0
    subst this
    exact ⟨none, 0, rfl, Nat.le_refl _, fun j hj => absurd hj (Nat.not_lt_zero _)⟩
  · refine ⟨_, cap, rfl, hcap, fun j hj => ?_⟩
    obtain ⟨g', c', e1, k1, k2, _, _, k5, _⟩ := h.at j hj
    simp only [Value.slice.injEq, Option.some.injEq, Addr.mk.injEq] at e1
    obtain ⟨⟨rfl, -, -⟩, -, rfl⟩ := e1
    exact ⟨g, 0, rfl, k5, by rw [Nat.zero_add]; exact k1, by rw [Nat.zero_add]; exact k2⟩
end Go.Proofs.YtbebgnknjoclkaaGreat.Kit
namespace Go.Proofs.YtbebgnknjoclkaaGreat
open Go.RowKit Kit
theorem Tryz.u108 : Tryz.prog.underlying 108 = some (.slice 112) := by kernel_rfl
theorem Tryz.i112 : (Tryz.prog.info? 112).map (fun i => (i.zero, i.size, i.bytes)) = some (some (.agg #[.int .i64 0, .pointer none]), 2, 16) := by kernel_rfl
theorem step_append_pa (W : World) {ops : Array Oper} {o : Oper} {a : Act} {K : Act → World → Prop} {Q : Exit → Act → World → Prop} {E : Prop} (hgd : o.guard = none) (s x : Operand)
    (ho : o.op = .call { callee := .builtin .append, args := #[s, x], argTypes := #[108, 108] }) (base : Nat) (v : Value) (l : List Pa) (hs : a.eval s = v) (hown : QOwns W base 112 v l) (hbase : base ≤ W.heap.size)
    (g : Nat) (nm : Int) (io : Addr) (hx : a.eval x = .slice (some ⟨g, 0, none⟩) 1 1) (hc : AtC W g 112 #[.int .i64 nm, .pointer (some io)]) (hl : l.length ≤ 100000000000)
    (h : ∀ v' w', QOwns w' base 112 v' (l ++ [(nm, io)]) → W.grownBy w' v.ownBlock → (∀ k, v'.ownBlock = some k → v.ownBlock = some k ∨ W.heap.size ≤ k) → K (a.put o.dst v') w') :
    if Region.wanted o (yielded ops a.tmps) = true then Oper.wp Tryz.prog o a W K Q else E := by
  obtain ⟨i0, hi, hz0, hz1, hz2⟩ := info_parts Tryz.i112
  refine step_append_lies _ hgd s x 108 ho base 112 i0 _ 2 16 Tryz.u108 hi hz0 hz1 hz2 rfl (by decide) v l.length (qc l) hs hown ⟨g, 0, none⟩ 1 1 [.int .i64 nm, .pointer (some io)] hx rfl ?_ ?_ (by decide) ?_ ?_ hbase W.heap.size rfl ?_
  · intro j u hj
    have := (hc.cell j).trans (show (#[.int .i64 nm, .pointer (some io)] : Array Value)[j]? = some u by simpa using hj)
    by_cases e : j = 0
    · subst e; simpa [Addr.add] using this
    · simpa [Addr.add, e] using this
  · intro u hu
    simp only [List.mem_cons, List.not_mem_nil, or_false] at hu
    rcases hu with rfl | rfl <;> rfl
  · unfold maxLen; omega
  · omega
  · intro g' cap w' hown' hgrow hat _
    refine h _ w' ?_ hgrow fun k hk => ?_
    · show w'.ownsRow base 112 2 _ (l ++ [(nm, io)]).length (qc (l ++ [(nm, io)]))
      rw [List.length_append, qc_append]
      exact hown'
    · simp only [Value.ownBlock, Option.some.injEq] at hk
      subst hk
      rcases hat with hat | hat
      · exact .inl hat
      · exact .inr (by omega)
/-- Where the slot of a title lies. -/
def adr (tb : List V3) (t : Tt) : Addr := ⟨((tb.getD t.2.1 zB3).2.1.ownBlock).getD 0, t.2.2 * 2, none⟩
def paL (tb : List V3) (l : List Tt) : List Pa := l.map fun t => (t.1, adr tb t)
theorem paL_len (tb : List V3) (l : List Tt) : (paL tb l).length = l.length := List.length_map _
theorem paL_at (tb : List V3) (l : List Tt) (j : Nat) (h : j < l.length) (h' : j < (paL tb l).length) : (paL tb l)[j] = (l[j].1, adr tb l[j]) := by simp [paL]
theorem paL_append (tb : List V3) (a b : List Tt) : paL tb (a ++ b) = paL tb a ++ paL tb b := List.map_append
/-- The cells of a slot. -/
theorem slot_cells {w : World} {S : Nat → Prop} {u v iv bv : Value} {ti tb : List V3} {xs ys : List Bool} {is : List Ino} {bs : List Blk} (h : DL w S u v iv bv ti tb xs ys is bs) (t : Tt) (ht : InT bs t) :
    ∃ g c, (tb.getD t.2.1 zB3).2.1 = .slice (some ⟨g, 0, none⟩) (bs.getD t.2.1 zB).2.1.length c ∧ adr tb t = ⟨g, t.2.2 * 2, none⟩ ∧ w.cell? ⟨g, t.2.2 * 2, none⟩ = some (.string (slotN bs t).1) ∧ w.cell? ⟨g, t.2.2 * 2 + 1, none⟩ = some (.int .i64 (slotN bs t).2) ∧ (∀ k, w.frozen? ⟨g, k, none⟩ = false) ∧ g < w.heap.size ∧ S g := by
  obtain ⟨h1, h2⟩ := ht
  have e0 := getD_in (d := zB) h1
  rw [e0] at h2 ⊢
  obtain ⟨-, -, -, -, -, -, -, -, so, hS⟩ := h.blk t.2.1 h1
  obtain ⟨g, c, e, k1, k2, f, -, hl, -⟩ := so.at t.2.2 h2
  refine ⟨g, c, e, ?_, ?_, ?_, f, hl, hS g (by rw [e]; rfl)⟩
  · unfold adr; rw [e]; rfl
  · unfold slotN; rw [e0, getD_in h2]; exact k1
  · unfold slotN; rw [e0, getD_in h2]; exact k2
end Go.Proofs.YtbebgnknjoclkaaGreat
/- Of the specification: MendNames by its contract. -/
namespace Go.Proofs.YtbebgnknjoclkaaGreat
open Go.RowKit Kit
def mendN' (xs ys : List Bool) (is : List Ino) (bs : List Blk) : List Blk := if diskOk xs ys is bs = true then mendN is bs else bs
theorem Tryz.u67 : Tryz.prog.underlying 67 = some (.slice 9) := by kernel_rfl
theorem Tryz.i9 : (Tryz.prog.info? 9).map (fun i => (i.zero, i.size, i.bytes)) = some (some (.string ⟨#[]⟩), 1, 16) := by kernel_rfl
theorem NV.noN {w wr : World} {b n0 : Nat} {A : Array Value} {u v iv bv : Value} {ti tb : List V3} {xs ys : List Bool} {is : List Ino} {bs : List Blk} {dv kv nv : Value} {dirs blks : List Int} {names : List ByteArray} {BX : List Bx} (h : NV w wr b n0 A u v iv bv ti tb xs ys is bs dv kv nv dirs blks names BX) : NV w wr b n0 A u v iv bv ti tb xs ys is bs dv kv (.slice none 0 0) dirs blks [] [] :=
  ⟨h.os, h.d, h.k, ROwns.nil _ _ _, h.dk, fun i _ e => by simp [Value.ownBlock] at e, fun i _ e => by simp [Value.ownBlock] at e, fun e he => by cases he⟩
/-- Behind j inodes; behind k pointers of the next. -/
def stI (is : List Ino) (bs : List Blk) (j : Nat) : TSt := runU is bs ([], []) (ptrL is (kndQ is j))
def stK (is : List Ino) (bs : List Blk) (j k : Nat) : TSt := runU is bs (stI is bs j) (ptrT ((j : Int) + 1) ((ptrsAt is ((j : Int) + 1)).take k))
def curT (is : List Ino) (bs : List Blk) (T : List Tt) : List Blk := runN is [] T bs
theorem stI_succ (is : List Ino) (bs : List Blk) (j : Nat) : stI is bs (j + 1) = if kindAt is ((j : Int) + 1) = 2 then stK is bs j (ptrsAt is ((j : Int) + 1)).length else stI is bs j := by
  unfold stI stK
  rw [kndQ_succ]
  by_cases h0 : kindAt is ((j : Int) + 1) = 0
  · rw [if_pos h0, List.append_nil, if_neg (by omega)]
  · rw [if_neg h0]
    unfold ptrL
    rw [List.flatMap_append, runU_append, List.flatMap_cons, List.flatMap_nil, List.append_nil, List.take_length]
    split
    · rfl
    · rename_i h2
      refine runU_skip is bs _ _ fun x hx => ?_
      unfold ptrI at hx
      obtain ⟨p, -, rfl⟩ := List.mem_map.1 hx
      exact h2
theorem stK_zero (is : List Ino) (bs : List Blk) (j : Nat) : stK is bs j 0 = stI is bs j := by simp [stK, ptrT, runU]
theorem stK_succ (is : List Ino) (bs : List Blk) (j k : Nat) (hk : k < (ptrsAt is ((j : Int) + 1)).length) : stK is bs j (k + 1) = if inB (ptrsAt is ((j : Int) + 1))[k] 1 16 = true then stepU is bs (stK is bs j k) ((j : Int) + 1, (ptrsAt is ((j : Int) + 1))[k]) else stK is bs j k := by
  unfold stK
  rw [ptrT_take _ _ _ hk, runU_append]
  split
  · rfl
  · rfl
theorem stI_all {is : List Ino} {bs : List Blk} (h : RD is bs) : curT is bs (stI is bs 8).1 = mendN is bs := by
  unfold curT mendN
  rw [titlesU h]
  rfl
/-- Titles so far, at pointer k. -/
theorem stK_ti {is : List Ino} {bs : List Blk} (h : RD is bs) (j k : Nat) : TI bs (stK is bs j k) := by
  have hr : ∀ (i : Int) (ps : List Int), ∀ x ∈ ptrT i ps, 1 ≤ x.2 ∧ x.2 ≤ 16 := fun i ps x hx => by
    unfold ptrT at hx
    obtain ⟨p, hp, rfl⟩ := List.mem_map.1 hx
    exact inB_true (List.mem_filter.1 hp).2
  exact TI.runU h.hb _ (hr _ _) (TI.runU h.hb _ (fun x hx => (mem_ptrL hx).2) (TI.begin bs))
theorem stK_dir {is : List Ino} {bs : List Blk} (j : Nat) : ∀ t ∈ (stI is bs j).1, ¬ t.1 = (j : Int) + 1 := by
  refine runU_dirs is bs (fun i => ¬ i = (j : Int) + 1) _ _ (fun x hx => ?_) (fun t ht => by cases ht)
  have h1 := (mem_ptrL hx).1
  unfold kndQ at h1
  obtain ⟨q, hq, e⟩ := List.mem_map.1 h1
  have := List.mem_range.1 (List.mem_filter.1 hq).1
  omega
theorem runU_had (is : List Ino) (bs : List Blk) : ∀ (l : List Pr) (st : TSt), (runU is bs st l).2.length ≤ st.2.length + l.length
  | [], st => by simp [runU]
  | x :: r, st => by
    have h1 := runU_had is bs r (stepU is bs st x)
    have h2 : (stepU is bs st x).2.length ≤ st.2.length + 1 := by
      unfold stepU
      split
      · omega
      · simp
    show (runU is bs (stepU is bs st x) r).2.length ≤ _
    rw [List.length_cons]
    omega
theorem stK_had {is : List Ino} {bs : List Blk} (h : RD is bs) (j k : Nat) (hj : j ≤ 8) (hk : k ≤ 2) : (stK is bs j k).2.length ≤ 1000 := by
  have h1 := runU_had is bs (ptrT ((j : Int) + 1) ((ptrsAt is ((j : Int) + 1)).take k)) (stI is bs j)
  have h2 := runU_had is bs (ptrL is (kndQ is j)) ([], [])
  have h3 := ptrL_len h (kndQ is j)
  have h4 := kndQ_len is j
  have h5 := ptrT_len ((j : Int) + 1) ((ptrsAt is ((j : Int) + 1)).take k)
  rw [List.length_take] at h5
  unfold stK
  unfold stI at h1 ⊢
  simp only [List.length_nil] at h2
  omega
theorem stK_len {is : List Ino} {bs : List Blk} (h : RD is bs) (j k : Nat) (hj : j ≤ 8) (hk : k ≤ 2) : (stK is bs j k).1.length ≤ 80 := by
  have h1 := runU_len h (ptrT ((j : Int) + 1) ((ptrsAt is ((j : Int) + 1)).take k)) (stI is bs j)
  have h2 := runU_len h (ptrL is (kndQ is j)) ([], [])
  have h3 := ptrL_len h (kndQ is j)
  have h4 := kndQ_len is j
  have h5 := ptrT_len ((j : Int) + 1) ((ptrsAt is ((j : Int) + 1)).take k)
  rw [List.length_take] at h5
  unfold stK
  unfold stI at h1 ⊢
  simp only [List.length_nil] at h2
  omega
set_option maxRecDepth 100000 in
set_option maxHeartbeats 6400000 in
theorem specMN_any (u v iv bv : Value) (xs ys : List Bool) (is : List Ino) (bs : List Blk) (w : World) (h : DR w u v iv bv xs ys is bs) (hG : Big 1048576 xs ys is bs) :
    Calls Tryz.prog 15 #[.agg #[u, v, iv, bv]] w fun e w' => ∃ u' v' i' b', e = .returned (.agg #[u', v', i', b']) ∧ DO w' (fun k => w.heap.size ≤ k) u' v' i' b' xs ys is (mendN' xs ys is bs) ∧ Below w.heap.size w w' := by
  obtain ⟨a1, c1, a2, c2, a3, c3, a4, c4, rfl, rfl, rfl, rfl⟩ := h.form
  have HH := hide h
  have HG := hide hG
  obtain ⟨W0, hW0⟩ : ∃ W, ((w.alloc (.cells #[.slice a1 xs.length c1, .slice a2 ys.length c2, .slice a3 is.length c3, .slice a4 bs.length c4] 34)).alloc (.cells #[.slice none 0 0, .slice none 0 0, .slice none 0 0, .slice none 0 0] 34)) = W := ⟨_, rfl⟩
  have H0 : Hid (Below w.heap.size w W0 ∧ AtC W0 w.heap.size 34 #[.slice a1 xs.length c1, .slice a2 ys.length c2, .slice a3 is.length c3, .slice a4 bs.length c4] ∧ AtC W0 (w.heap.size + 1) 34 noD ∧ W0.heap.size = w.heap.size + 2) := by
    rw [← hW0]
    have q := AtC.new (w.alloc (.cells #[.slice a1 xs.length c1, .slice a2 ys.length c2, .slice a3 is.length c3, .slice a4 bs.length c4] 34)) 34 #[.slice none 0 0, .slice none 0 0, .slice none 0 0, .slice none 0 0]
    rw [World.size_alloc] at q
    exact ⟨((Below.refl _ w).alloc (Nat.le_refl _) _).alloc (by simp) _, (AtC.new w 34 _).alloc _, q, by simp⟩
  have x0 : W0.cell? ⟨w.heap.size, 0, none⟩ = some (.slice a1 xs.length c1) := H0.out.2.1.cell 0
  have x1 : W0.cell? ⟨w.heap.size, 1, none⟩ = some (.slice a2 ys.length c2) := H0.out.2.1.cell 1
  have x2 : W0.cell? ⟨w.heap.size, 2, none⟩ = some (.slice a3 is.length c3) := H0.out.2.1.cell 2
  have x3 : W0.cell? ⟨w.heap.size, 3, none⟩ = some (.slice a4 bs.length c4) := H0.out.2.1.cell 3
  clear h hG
  go_enter Tryz.func15, Tryz.ntmps15
  go_wp2_with fail
  refine (specCopy_any (.slice a1 xs.length c1) (.slice a2 ys.length c2) (.slice a3 is.length c3) (.slice a4 bs.length c4) xs ys is bs W0 (HH.out.below H0.out.1 (Nat.le_refl _)) HG.out).mono ?_
  rintro e w1 ⟨u1, u2, u3, u4, rfl, O1, B1⟩
  obtain ⟨p1, q1, p2, q2, p3, q3, p4, q4, rfl, rfl, rfl, rfl⟩ := O1.dr.form
  obtain ⟨b, hb⟩ : ∃ n, w1.heap.size = n := ⟨_, rfl⟩
  obtain ⟨W2, hW2⟩ : ∃ W, w1.alloc (.cells #[.slice p1 xs.length q1, .slice p2 ys.length q2, .slice (p3) is.length q3, .slice p4 bs.length q4] 34) = W := ⟨_, rfl⟩
  have H2 : Hid (Below w.heap.size w W2 ∧ AtC W2 w.heap.size 34 #[.slice a1 xs.length c1, .slice a2 ys.length c2, .slice a3 is.length c3, .slice a4 bs.length c4] ∧ AtC W2 (w.heap.size + 1) 34 noD ∧ AtC W2 b 34 #[.slice p1 xs.length q1, .slice p2 ys.length q2, .slice (p3) is.length q3, .slice p4 bs.length q4] ∧ DO W2 (fun k => w.heap.size + 2 ≤ k ∧ k ≠ b) (.slice p1 xs.length q1) (.slice p2 ys.length q2) (.slice (p3) is.length q3) (.slice p4 bs.length q4) xs ys is bs ∧ w.heap.size + 2 ≤ b ∧ W2.heap.size = b + 1) := by
    have b1 := H0.out.1.trans (B1.mono H0.out.1.size)
    have s1 := B1.size
    rw [H0.out.2.2.2, hb] at s1
    rw [← hW2]
    refine ⟨b1.alloc b1.size _, (H0.out.2.1.over B1).alloc _, (H0.out.2.2.1.over B1).alloc _, by rw [← hb]; exact AtC.new w1 34 _, ?_, s1, by rw [World.size_alloc, hb]⟩
    obtain ⟨ti, tb, L1⟩ := O1.dl
    have L2 := L1.bound.do_.mono (S' := fun k => w.heap.size + 2 ≤ k ∧ k ≠ b) fun k hk => ⟨by rw [← H0.out.2.2.2]; exact hk.1, by have := hk.2; omega⟩
    exact L2.alloc _
  have y0 : W2.cell? ⟨w.heap.size, 0, none⟩ = some (.slice a1 xs.length c1) := H2.out.2.1.cell 0
  have y1 : W2.cell? ⟨w.heap.size, 1, none⟩ = some (.slice a2 ys.length c2) := H2.out.2.1.cell 1
  have y2 : W2.cell? ⟨w.heap.size, 2, none⟩ = some (.slice a3 is.length c3) := H2.out.2.1.cell 2
  have y3 : W2.cell? ⟨w.heap.size, 3, none⟩ = some (.slice a4 bs.length c4) := H2.out.2.1.cell 3
  clear O1 B1 hW0 x0 x1 x2 x3 H0
  go_wp2_with fail
  refine (specOk_disk (.slice a1 xs.length c1) (.slice a2 ys.length c2) (.slice a3 is.length c3) (.slice a4 bs.length c4) xs ys is bs W2 (HH.out.below H2.out.1 (Nat.le_refl _)) (fun j hj k hk => (HG.out.s j hj).2.1 k hk)).mono ?_
  rintro e w3 ⟨rfl, B3⟩
  have H3 : Hid (Below w.heap.size w w3 ∧ AtC w3 w.heap.size 34 #[.slice a1 xs.length c1, .slice a2 ys.length c2, .slice a3 is.length c3, .slice a4 bs.length c4] ∧ AtC w3 (w.heap.size + 1) 34 noD ∧ AtC w3 b 34 #[.slice p1 xs.length q1, .slice p2 ys.length q2, .slice (p3) is.length q3, .slice p4 bs.length q4] ∧ DO w3 (fun k => w.heap.size + 2 ≤ k ∧ k ≠ b) (.slice p1 xs.length q1) (.slice p2 ys.length q2) (.slice (p3) is.length q3) (.slice p4 bs.length q4) xs ys is bs ∧ w.heap.size + 2 ≤ b) := ⟨H2.out.1.trans (B3.mono H2.out.1.size), H2.out.2.1.over B3, H2.out.2.2.1.over B3, H2.out.2.2.2.1.over B3, H2.out.2.2.2.2.1.below B3 (Nat.le_refl _), H2.out.2.2.2.2.2.1⟩
  clear B3 H2 hW2 hb y0 y1 y2 y3
  cases hok : diskOk xs ys is bs with
  | false =>
    have HM : Hid (mendN' xs ys is bs = bs) := by unfold mendN'; rw [hok]; rfl
    have r0 : w3.cell? ⟨w.heap.size + 1, 0, none⟩ = some (.slice none 0 0) := H3.out.2.2.1.cell 0
    have r1 : w3.cell? ⟨w.heap.size + 1, 1, none⟩ = some (.slice none 0 0) := H3.out.2.2.1.cell 1
    have r2 : w3.cell? ⟨w.heap.size + 1, 2, none⟩ = some (.slice none 0 0) := H3.out.2.2.1.cell 2
    have r3 : w3.cell? ⟨w.heap.size + 1, 3, none⟩ = some (.slice none 0 0) := H3.out.2.2.1.cell 3
    have v0 := H3.out.2.2.1.frozen 0
    have v1 := H3.out.2.2.1.frozen 1
    have v2 := H3.out.2.2.1.frozen 2
    have v3 := H3.out.2.2.1.frozen 3
    have o0 : w3.cell? ⟨b, 0, none⟩ = some (.slice p1 xs.length q1) := H3.out.2.2.2.1.cell 0
    have o1 : w3.cell? ⟨b, 1, none⟩ = some (.slice p2 ys.length q2) := H3.out.2.2.2.1.cell 1
    have o2 : w3.cell? ⟨b, 2, none⟩ = some (.slice p3 is.length q3) := H3.out.2.2.2.1.cell 2
    have o3 : w3.cell? ⟨b, 3, none⟩ = some (.slice p4 bs.length q4) := H3.out.2.2.2.1.cell 3
    have hne : ¬ b = w.heap.size + 1 := by have := H3.out.2.2.2.2.2; omega
    have hne2 : ¬ w.heap.size + 1 = b := by have := H3.out.2.2.2.2.2; omega
    obtain ⟨ti, tb, L3⟩ := H3.out.2.2.2.2.1.dl
    have HF := hide (OS.fin (A := #[.slice a1 xs.length c1, .slice a2 ys.length c2, .slice a3 is.length c3, .slice a4 bs.length c4]) (n0 := w3.heap.size) ⟨L3.bound, H3.out.2.2.2.1, H3.out.2.2.1, H3.out.2.1, H3.out.1, H3.out.2.2.2.1.lt, H3.out.2.2.2.2.2, Nat.le_refl _⟩ (.slice p1 xs.length q1) (.slice p2 ys.length q2) (.slice p3 is.length q3) (.slice p4 bs.length q4))
    clear hok L3
    go_wp2
    refine bodyPost_ret (v := .agg #[.slice p1 xs.length q1, .slice p2 ys.length q2, .slice (p3) is.length q3, .slice p4 bs.length q4]) (by simp [results, go_sem, r0, r1, r2, r3]) rfl ⟨_, _, _, _, rfl, ?_, ?_⟩
    · rw [HM.out]; exact HF.out.1
    · exact HF.out.2
  | true =>
    have HM : Hid (mendN' xs ys is bs = mendN is bs) := by unfold mendN'; rw [hok]; rfl
    have HO := hide hok
    have hX := RX.of_ok hok
    have HX := hide hX
    have HI8 := hide hX.r.hi
    have HB16 := hide hX.r.hb
    obtain ⟨ti, tb, L3⟩ := H3.out.2.2.2.2.1.dl
    obtain ⟨g3, g4, e3, e4⟩ : ∃ g3 g4, p3 = some ⟨g3, 0, none⟩ ∧ p4 = some ⟨g4, 0, none⟩ := by
      obtain ⟨g, c, e, -⟩ := L3.ino 0 (by rw [HI8.out]; decide)
      obtain ⟨g', c', e', -⟩ := L3.blk 0 (by rw [HB16.out]; decide)
      simp only [Value.slice.injEq] at e e'
      exact ⟨g, g', e.1, e'.1⟩
    subst e3 e4
    obtain ⟨n0, hn0⟩ : ∃ n, w3.heap.size = n := ⟨_, rfl⟩
    obtain ⟨W4, hW4⟩ : ∃ W, w3.alloc (.cells #[] 3) = W := ⟨_, rfl⟩
    obtain ⟨W5, hW5⟩ : ∃ W, W4.alloc (.cells #[] 3) = W := ⟨_, rfl⟩
    have hs4 : W4.heap.size = n0 + 1 := by rw [← hW4, World.size_alloc, hn0]
    have H5 : Hid (NV w W5 b n0 #[.slice a1 xs.length c1, .slice a2 ys.length c2, .slice a3 is.length c3, .slice a4 bs.length c4] (.slice p1 xs.length q1) (.slice p2 ys.length q2) (.slice (some ⟨g3, 0, none⟩) is.length q3) (.slice (some ⟨g4, 0, none⟩) bs.length q4) ti tb xs ys is (curT is bs (stI is bs 0).1) (.slice (some ⟨n0, 0, none⟩) 0 0) (.slice (some ⟨n0 + 1, 0, none⟩) 0 0) (.slice none 0 0) (DS is (curT is bs (stI is bs 0).1) (stI is bs 0).1) (stI is bs 0).2 [] []) := by
      have o3 : OS w w3 b n0 #[.slice a1 xs.length c1, .slice a2 ys.length c2, .slice a3 is.length c3, .slice a4 bs.length c4] (.slice p1 xs.length q1) (.slice p2 ys.length q2) (.slice (some ⟨g3, 0, none⟩) is.length q3) (.slice (some ⟨g4, 0, none⟩) bs.length q4) ti tb xs ys is bs := ⟨by rw [← hn0]; exact L3.bound, H3.out.2.2.2.1, H3.out.2.2.1, H3.out.2.1, H3.out.1, by rw [← hn0]; exact H3.out.2.2.2.1.lt, H3.out.2.2.2.2.2, by omega⟩
      have b4 : Below w3.heap.size w3 W4 := by rw [← hW4]; exact (Below.refl _ w3).alloc (Nat.le_refl _) _
      have b5 : Below W4.heap.size W4 W5 := by rw [← hW5]; exact (Below.refl _ W4).alloc (Nat.le_refl _) _
      have r4 : ROwns W4 n0 3 (.slice (some ⟨n0, 0, none⟩) 0 0) (ic []) := by rw [← hW4, ← hn0]; exact ROwns.lit0 w3 w3.heap.size 3 (Nat.le_refl _)
      have r5 : ROwns W5 n0 3 (.slice (some ⟨n0 + 1, 0, none⟩) 0 0) (ic []) := by rw [← hW5, ← hs4]; exact ROwns.lit0 W4 n0 3 (by omega)
      exact ⟨(o3.below b4).below b5, r4.below b5 (Nat.le_refl _), r5, ROwns.nil _ _ _, fun i e e2 => by simp [Value.ownBlock] at e e2; omega, fun i _ e => by simp [Value.ownBlock] at e, fun i _ e => by simp [Value.ownBlock] at e, fun e he => by cases he⟩
    clear hok hX L3 H3
    go_wp2_with fail
    go_loopw [4, 5, 6] (fun dv kv iv wr => ∃ (d' k' : Value) (j : Nat), d' = dv ∧ k' = kv ∧ j ≤ is.length ∧ iv = .int .i64 j ∧ Hid (NV w wr b n0 #[.slice a1 xs.length c1, .slice a2 ys.length c2, .slice a3 is.length c3, .slice a4 bs.length c4] (.slice p1 xs.length q1) (.slice p2 ys.length q2) (.slice (some ⟨g3, 0, none⟩) is.length q3) (.slice (some ⟨g4, 0, none⟩) bs.length q4) ti tb xs ys is (curT is bs (stI is bs j).1) d' k' (.slice none 0 0) (DS is (curT is bs (stI is bs j).1) (stI is bs j).1) (stI is bs j).2 [] [])) (fun _ _ iv _ => is.length - (intOf iv).toNat)
    case atStart => exact ⟨_, _, 0, rfl, rfl, Nat.zero_le _, rfl, H5.out⟩
    case round =>
      obtain ⟨dv, kv, j, hdv, hkv, hj, rfl, HR⟩ := hrel
      subst hdv hkv
      clear H5 hn0 hW4 hW5 hs4
      have jj0 : (0 : Int) ≤ (j : Int) := by omega
      have o2' : wr.cell? ⟨b, 2, none⟩ = some (.slice (some ⟨g3, 0, none⟩) is.length q3) := HR.out.os.o.cell 2
      by_cases hlt : j < is.length
      rotate_left
      · have jj1 : ¬ ((j : Int) < (is.length : Int)) := by omega
        have r0 : wr.cell? ⟨w.heap.size + 1, 0, none⟩ = some (.slice none 0 0) := HR.out.os.r.cell 0
        have r1 : wr.cell? ⟨w.heap.size + 1, 1, none⟩ = some (.slice none 0 0) := HR.out.os.r.cell 1
        have r2 : wr.cell? ⟨w.heap.size + 1, 2, none⟩ = some (.slice none 0 0) := HR.out.os.r.cell 2
        have r3 : wr.cell? ⟨w.heap.size + 1, 3, none⟩ = some (.slice none 0 0) := HR.out.os.r.cell 3
        have v0 := HR.out.os.r.frozen 0
        have v1 := HR.out.os.r.frozen 1
        have v2 := HR.out.os.r.frozen 2
        have v3 := HR.out.os.r.frozen 3
        have o0 : wr.cell? ⟨b, 0, none⟩ = some (.slice p1 xs.length q1) := HR.out.os.o.cell 0
        have o1 : wr.cell? ⟨b, 1, none⟩ = some (.slice p2 ys.length q2) := HR.out.os.o.cell 1
        have o3 : wr.cell? ⟨b, 3, none⟩ = some (.slice (some ⟨g4, 0, none⟩) bs.length q4) := HR.out.os.o.cell 3
        have hne : ¬ b = w.heap.size + 1 := by have := HR.out.os.Bn; omega
        have hne2 : ¬ w.heap.size + 1 = b := by have := HR.out.os.Bn; omega
        have HF := hide (HR.out.os.fin (.slice p1 xs.length q1) (.slice p2 ys.length q2) (.slice (some ⟨g3, 0, none⟩) is.length q3) (.slice (some ⟨g4, 0, none⟩) bs.length q4))
        have HE : Hid (curT is bs (stI is bs j).1 = mendN is bs) := by show _ = _; rw [show j = 8 by have := HI8.out; omega]; exact stI_all HX.out.r
        go_wp2
        refine bodyPost_ret (v := .agg #[.slice p1 xs.length q1, .slice p2 ys.length q2, .slice (some ⟨g3, 0, none⟩) is.length q3, .slice (some ⟨g4, 0, none⟩) bs.length q4]) (by simp [results, go_sem, r0, r1, r2, r3]) rfl ⟨_, _, _, _, rfl, ?_, ?_⟩
        · rw [HM.out, ← HE.out]; exact HF.out.1
        · exact HF.out.2
      have jj1 : (j : Int) < (is.length : Int) := by omega
      have HJ8 : Hid (j < 8) := by have := HI8.out; show j < 8; omega
      have hj8 : j < 8 := HJ8.out
      obtain ⟨g', c', ei, -, -, -, y0, y1, y2, ro, -⟩ := HR.out.os.d.ino j hlt
      simp only [Value.slice.injEq, Option.some.injEq, Addr.mk.injEq] at ei
      obtain ⟨⟨rfl, -⟩, -, -⟩ := ei
      have h2 : is[j].2.2.length = 2 := HX.out.r.two _ (List.getElem_mem hlt)
      obtain ⟨gp, cp, ep, -, -, -, hgp, -⟩ := ro.at 0 (by rw [ic_length, h2]; decide)
      rw [ic_length, h2] at ep
      rw [ep] at y2
      have HEP := hide ep
      have HKQ : Hid (kindAt is ((j : Int) + 1) = is[j].1 ∧ ptrsAt is ((j : Int) + 1) = is[j].2.2) := kindAt_in hlt
      have HSC := hide (stI_succ is bs j)
      have HP2 := hide h2
      have HSS : Hid (∀ k, (hk : k < 2) → stK is bs j (k + 1) = if inB (is[j].2.2[k]'(by rw [HP2.out]; exact hk)) 1 16 = true then stepU is bs (stK is bs j k) ((j : Int) + 1, is[j].2.2[k]'(by rw [HP2.out]; exact hk)) else stK is bs j k) := fun k hk => by
        have := stK_succ is bs j k (by rw [HKQ.out.2, h2]; exact hk)
        simp only [HKQ.out.2] at this
        exact this
      rw [HKQ.out.2, h2] at HSC
      obtain ⟨kj, hkj⟩ : ∃ x, is[j].1 = x := ⟨_, rfl⟩
      obtain ⟨lj, hlj⟩ : ∃ x, is[j].2.1 = x := ⟨_, rfl⟩
      rw [hkj] at y0 HKQ
      rw [hlj] at y1
      rw [HKQ.out.1] at HSC
      obtain ⟨xb, hxb⟩ : ∃ n, wr.heap.size = n := ⟨_, rfl⟩
      obtain ⟨W6, hW6⟩ : ∃ W, wr.alloc (.cells #[.int .i64 kj, .int .i64 lj, .slice (some ⟨gp, 0, none⟩) 2 cp] 65) = W := ⟨_, rfl⟩
      obtain ⟨W7, hW7⟩ : ∃ W, W6.alloc (.cells #[] 9) = W := ⟨_, rfl⟩
      have hs6 : W6.heap.size = xb + 1 := by rw [← hW6, World.size_alloc, hxb]
      have H7 : Hid (NV w W7 b n0 #[.slice a1 xs.length c1, .slice a2 ys.length c2, .slice a3 is.length c3, .slice a4 bs.length c4] (.slice p1 xs.length q1) (.slice p2 ys.length q2) (.slice (some ⟨g3, 0, none⟩) is.length q3) (.slice (some ⟨g4, 0, none⟩) bs.length q4) ti tb xs ys is (curT is bs (stK is bs j 0).1) dv kv (.slice (some ⟨xb + 1, 0, none⟩) 0 0) (DS is (curT is bs (stK is bs j 0).1) (stK is bs j 0).1) (stK is bs j 0).2 (NM (curT is bs (stK is bs j 0).1) ((j : Int) + 1) (stK is bs j 0).1) [(xb, 65, #[.int .i64 kj, .int .i64 lj, .slice (some ⟨gp, 0, none⟩) 2 cp])]) := by
        have n6 : NV w W6 b n0 #[.slice a1 xs.length c1, .slice a2 ys.length c2, .slice a3 is.length c3, .slice a4 bs.length c4] (.slice p1 xs.length q1) (.slice p2 ys.length q2) (.slice (some ⟨g3, 0, none⟩) is.length q3) (.slice (some ⟨g4, 0, none⟩) bs.length q4) ti tb xs ys is (curT is bs (stI is bs j).1) dv kv (.slice none 0 0) (DS is (curT is bs (stI is bs j).1) (stI is bs j).1) (stI is bs j).2 [] [(xb, 65, #[.int .i64 kj, .int .i64 lj, .slice (some ⟨gp, 0, none⟩) 2 cp])] := by
          rw [← hW6, ← hxb]
          exact HR.out.box ((Below.refl _ wr).alloc (Nat.le_refl _) _) (AtC.new wr 65 _) (Nat.le_refl _)
        rw [stK_zero, NM_none _ _ _ (stK_dir j), ← hW7, ← hs6]
        exact n6.names0
      clear ro h2 ep HR hkj hlj
      go_wp2_with fail
      go_loopw [4, 5, 8, 9] (fun dv kv nv kk wr => ∃ (d' k' n' : Value) (t : Nat), d' = dv ∧ k' = kv ∧ n' = nv ∧ t ≤ 2 ∧ kk = .int .i64 t ∧ Hid (NV w wr b n0 #[.slice a1 xs.length c1, .slice a2 ys.length c2, .slice a3 is.length c3, .slice a4 bs.length c4] (.slice p1 xs.length q1) (.slice p2 ys.length q2) (.slice (some ⟨g3, 0, none⟩) is.length q3) (.slice (some ⟨g4, 0, none⟩) bs.length q4) ti tb xs ys is (curT is bs (stK is bs j t).1) d' k' n' (DS is (curT is bs (stK is bs j t).1) (stK is bs j t).1) (stK is bs j t).2 (NM (curT is bs (stK is bs j t).1) ((j : Int) + 1) (stK is bs j t).1) [(xb, 65, #[.int .i64 kj, .int .i64 lj, .slice (some ⟨gp, 0, none⟩) 2 cp])] ∧ (¬ kj = 2 → t = 0))) (fun _ _ _ kk _ => 2 - (intOf kk).toNat)
      case atStart => exact ⟨_, _, _, 0, rfl, rfl, rfl, Nat.zero_le _, rfl, H7.out, fun _ => rfl⟩
      case round =>
        obtain ⟨dv', kv', nv', t, hdv, hkv, hnv, ht, rfl, HT⟩ := hrel
        subst hdv hkv hnv
        clear H7 hxb hW6 hW7 hs6 o2' y0 y1 y2
        have t0 : (0 : Int) ≤ (t : Int) := by omega
        have g0 : wr.cell? ⟨xb, 0, none⟩ = some (.int .i64 kj) := (HT.out.1.bx _ (List.mem_singleton.2 rfl)).1.cell 0
        have g1 : wr.cell? ⟨xb, 2, none⟩ = some (.slice (some ⟨gp, 0, none⟩) 2 cp) := (HT.out.1.bx _ (List.mem_singleton.2 rfl)).1.cell 2
        by_cases htl : t < 2
        rotate_left
        · have t1 : ¬ ((t : Int) < (2 : Int)) := by omega
          have HE : Hid (stI is bs (j + 1) = stK is bs j t) := by
            show _ = _
            rw [HSC.out, if_pos (Decidable.byContradiction fun e => by have := HT.out.2 e; omega), show t = 2 by omega]
          go_wp2
          go_roundw
          case rel => exact ⟨dv', kv', j + 1, rfl, rfl, by omega, by go_num, by rw [HE.out]; exact HT.out.1.noN⟩
          case measure => simp [intOf]; omega
        have t1 : (t : Int) < (2 : Int) := by omega
        by_cases hk2 : kj = 2
        rotate_left
        · have n1 : (kj == 2) = false := by simp [hk2]
          have HE : Hid (stI is bs (j + 1) = stK is bs j t) := by
            show _ = _
            rw [HSC.out, if_neg hk2, HT.out.2 hk2, stK_zero]
          clear hk2
          go_wp2
          go_roundw
          case rel => exact ⟨dv', kv', j + 1, rfl, rfl, by omega, by go_num, by rw [HE.out]; exact HT.out.1.noN⟩
          case measure => simp [intOf]; omega
        subst hk2
        have HS1 := hide (HSS.out t htl)
        have HTI := hide (stK_ti (is := is) (bs := bs) HX.out.r j t)
        have HLN := hide (stK_len HX.out.r j t (by omega) (by omega))
        have HKL := hide (stK_had (is := is) (bs := bs) HX.out.r j t (by omega) (by omega))
        obtain ⟨st, hst⟩ : ∃ x, stK is bs j t = x := ⟨_, rfl⟩
        rw [hst] at HT HS1 HTI HLN HKL
        have HNI : Hid (NI xs ys is bs (curT is bs st.1)) := (NI.begin HO.out).run st.1 []
        obtain ⟨cur, hcur⟩ : ∃ x, curT is bs st.1 = x := ⟨_, rfl⟩
        have HCUR := hide hcur
        rw [hcur] at HT HNI
        have HC16 : Hid (cur.length = 16) := (diskOk_parts HNI.out.ok).2.2.2.2
        have ht2 : t < is[j].2.2.length := by rw [HP2.out]; exact htl
        have HCP : Hid (∀ W, Below wr.heap.size wr W → W.cell? ⟨gp, t, none⟩ = some (.int .i64 is[j].2.2[t]) ∧ gp < W.heap.size ∧ W.cell? ⟨xb, 2, none⟩ = some (.slice (some ⟨gp, 0, none⟩) 2 cp) ∧ NV w W b n0 #[.slice a1 xs.length c1, .slice a2 ys.length c2, .slice a3 is.length c3, .slice a4 bs.length c4] (.slice p1 xs.length q1) (.slice p2 ys.length q2) (.slice (some ⟨g3, 0, none⟩) is.length q3) (.slice (some ⟨g4, 0, none⟩) bs.length q4) ti tb xs ys is cur dv' kv' nv' (DS is cur st.1) st.2 (NM cur ((j : Int) + 1) st.1) [(xb, 65, #[.int .i64 2, .int .i64 lj, .slice (some ⟨gp, 0, none⟩) 2 cp])]) := fun W hb => by
          have o1 := HT.out.1.below hb
          obtain ⟨-, -, -, -, -, -, -, -, -, ro, -⟩ := o1.os.d.ino j hlt
          rw [HEP.out] at ro
          obtain ⟨g', c', e', k1, f1, -, l1, -⟩ := ro.at t (by rw [ic_length]; exact ht2)
          simp only [Value.slice.injEq, Option.some.injEq, Addr.mk.injEq] at e'
          obtain ⟨⟨rfl, -⟩, -, -⟩ := e'
          exact ⟨by rw [k1]; simp [ic, ht2], l1, (o1.bx _ (List.mem_singleton.2 rfl)).1.cell 2, o1⟩
        obtain ⟨pn, hpn⟩ : ∃ x, is[j].2.2[t] = x := ⟨_, rfl⟩
        rw [hpn] at HS1 HCP
        have CB := hide (fun (W : World) (hb : Below wr.heap.size wr W) => blkL_any pn (.slice p1 xs.length q1) (.slice p2 ys.length q2) (.slice (some ⟨g3, 0, none⟩) is.length q3) (.slice (some ⟨g4, 0, none⟩) bs.length q4) ti tb xs ys is cur _ W (HT.out.1.below hb).os.d HC16.out)
        have HSL : Hid (∃ sa sn sc, slv tb cur pn = .slice sa sn sc ∧ ((inB pn 1 16 = true) → sn = (cur.getD (pn - 1).toNat zB).2.1.length ∧ (tb.getD (pn - 1).toNat zB3).2.1 = .slice sa sn sc)) := by
          unfold slv
          rw [HC16.out]
          split
          · rename_i hin
            have hin' : inB pn 1 16 = true := hin
            obtain ⟨h1, h2⟩ := inB_true hin'
            obtain ⟨-, -, -, -, -, -, -, -, so, -⟩ := HT.out.1.os.d.blk (pn - 1).toNat (by have := HC16.out; omega)
            obtain ⟨sa, sc, e, -⟩ := so.form
            exact ⟨sa, _, sc, e, fun _ => ⟨by rw [getD_in (by have := HC16.out; omega)], e⟩⟩
          · rename_i hin
            exact ⟨_, _, _, rfl, fun e => absurd e hin⟩
        obtain ⟨sa, sn, sc, hsl, hsl2⟩ := HSL.out
        have HS2 := hide hsl2
        have HBA : Hid (∀ m : Nat, pn = (m : Int) + 1 → m < 16 → (blkAt cur pn).1 = (blkAt bs pn).1) := fun m e hm => by
          rw [e, blkAt_getD (by have := HC16.out; omega), blkAt_getD (by have := HB16.out; omega)]
          exact HNI.out.dr m
        obtain ⟨⟨bd, bss, btx⟩, hBD⟩ : ∃ X, blkAt cur pn = X := ⟨_, rfl⟩
        rw [hBD] at HBA
        obtain ⟨F, hF⟩ : ∃ F, inB pn 1 16 = F := ⟨_, rfl⟩
        rw [hsl, hBD, hF] at CB
        obtain ⟨wo, hwo⟩ : ∃ wo, wo = wr := ⟨_, rfl⟩
        subst hwo
        have HFF := hide hF
        rw [hF] at HS1
        have HPN := hide hpn
        clear hst hcur hpn hBD hF hsl hsl2 HSL
        go_upto_region 14 with fail
        clear g0 g1
        go_cut [10, 11] from 34 to 148 (fun bv ok wx => ∃ bw : Nat, bv = .pointer (some ⟨bw, 0, none⟩) ∧ ok = .bool F ∧ AtC wx bw 70 #[.bool bd, .slice sa sn sc, .string btx] ∧ Below wo.heap.size wo wx ∧ wo.heap.size ≤ bw)
        case first =>
          refine wp_region_alt (by kernel_rfl) [0, 1, 2, 3, 4, 5, 6, 7, 8, 9, 10] [11, 12] [([0, 1, 2, 3, 4, 5, 6, 7, 8, 10], [[9, 11, 12], [11, 9, 12]])] (fun i => match i with | 0 => .const [] (.agg #[.slice p1 xs.length q1, .slice p2 ys.length q2, .slice (some ⟨g3, 0, none⟩) is.length q3, .slice (some ⟨g4, 0, none⟩) bs.length q4]) | 1 => .const [] (.pointer (some ⟨xb, 2, none⟩)) | 2 => .const [1] (.slice (some ⟨gp, 0, none⟩) 2 cp) | 3 => .const [] (.int .i64 (t : Int)) | 4 => .const [2, 3] (.pointer (some ⟨gp, t, none⟩)) | 5 => .const [4] (.int .i64 pn) | 6 => MkT2 [0, 5] (BkE (.agg #[.bool bd, .slice sa sn sc, .string btx]) F) BkE.below | 7 => MkMv 6 | 8 => MkFs 7 | 9 => MkSd 7 | 10 => MkW 70 #[.bool false, .slice none 0 0, .string ⟨#[]⟩] | _ => .triv) (fun x => ⟨List.toArray ((Value.agg #[Value.slice a1 xs.length c1, Value.slice a2 ys.length c2, Value.slice a3 is.length c3, Value.slice a4 bs.length c4]) :: (Value.pointer (some { block := w.heap.size, off := 0 })) :: (Value.pointer (some { block := w.heap.size + 1, off := 0 })) :: (Value.pointer (some { block := b, off := 0 })) :: (dv') :: (kv') :: (Value.int IntKind.i64 ↑j) :: (Value.pointer (some { block := xb, off := 0 })) :: (nv') :: (Value.int IntKind.i64 ↑t) :: (x 10) :: (u11) :: (u12) :: (Value.agg #[Value.slice a1 xs.length c1, Value.slice a2 ys.length c2, Value.slice a3 is.length c3, Value.slice a4 bs.length c4]) :: (Value.agg #[Value.slice p1 xs.length q1, Value.slice p2 ys.length q2, Value.slice (some { block := g3, off := 0 }) is.length q3, Value.slice (some { block := g4, off := 0 }) bs.length q4]) :: (Value.agg #[Value.slice a1 xs.length c1, Value.slice a2 ys.length c2, Value.slice a3 is.length c3, Value.slice a4 bs.length c4]) :: (Value.bool true) :: (Value.bool false) :: (undef) :: (Value.slice (some { block := n0, off := 0 }) 0 0) :: (Value.slice (some { block := n0 + 1, off := 0 }) 0 0) :: (Value.int IntKind.i64 ↑j) :: (Value.pointer (some { block := b, off := 2 })) :: (Value.slice (some { block := g3, off := 0 }) is.length q3) :: (Value.int IntKind.i64 ↑is.length) :: (Value.bool true) :: (u26) :: (u27) :: (Value.pointer (some { block := b, off := 2 })) :: (Value.slice (some { block := g3, off := 0 }) is.length q3) :: (Value.int IntKind.i64 ↑j) :: (Value.pointer (some { block := g3, off := j * 3 })) :: (Value.agg #[Value.int IntKind.i64 2, Value.int IntKind.i64 lj, Value.slice (some { block := gp, off := 0 }) 2 cp]) :: (Value.slice (some { block := xb + 1, off := 0 }) 0 0) :: (Value.int IntKind.i64 ↑t) :: (Value.pointer (some { block := xb, off := 2 })) :: (Value.slice (some { block := gp, off := 0 }) 2 cp) :: (Value.int IntKind.i64 2) :: (Value.bool true) :: (Value.bool true) :: (Value.pointer (some { block := xb, off := 0 })) :: (Value.int IntKind.i64 2) :: (Value.bool true) :: (Value.bool true) :: (u44) :: (u45) :: (x 7) :: (x 0) :: (x 1) :: (x 2) :: (x 3) :: (x 4) :: (x 5) :: (x 6) :: (x 8) :: (x 9) :: (u56) :: (u57) :: (u58) :: (u59) :: (u60) :: (u61) :: (u62) :: (u63) :: (u64) :: (u65) :: (u66) :: (u67) :: (u68) :: (u69) :: (u70) :: (u71) :: (u72) :: (u73) :: (u74) :: (u75) :: (u76) :: (u77) :: (u78) :: (u79) :: (u80) :: (u81) :: (u82) :: (u83) :: (u84) :: (u85) :: (u86) :: (u87) :: (u88) :: (u89) :: (u90) :: (u91) :: (u92) :: (u93) :: (u94) :: (u95) :: (u96) :: (u97) :: (u98) :: (u99) :: (u100) :: (u101) :: (u102) :: (u103) :: (u104) :: (u105) :: (u106) :: (u107) :: (u108) :: (u109) :: (u110) :: (u111) :: (u112) :: (u113) :: (u114) :: (u115) :: (u116) :: (u117) :: (u118) :: (u119) :: (u120) :: (u121) :: (u122) :: (u123) :: (u124) :: (u125) :: (u126) :: (u127) :: (u128) :: (u129) :: (u130) :: (u131) :: (u132) :: (u133) :: (u134) :: (u135) :: (u136) :: (u137) :: (u138) :: (u139) :: (u140) :: (u141) :: (u142) :: (u143) :: (u144) :: (u145) :: (u146) :: (u147) :: (u148) :: (undef) :: []), []⟩) (fun i => match i with | 0 => u47 | 1 => u48 | 2 => u49 | 3 => u50 | 4 => u51 | 5 => u52 | 6 => u53 | 7 => u46 | 8 => u54 | 9 => u55 | 10 => u10 | _ => undef) rfl (makersOk2_of (by kernel_rfl) (by kernel_rfl)) (by kernel_rfl) (by kernel_rfl) (by kernel_rfl) rfl ?_ ?_ ?_
          · intro jo hj so x iw W hd hp K hK
            simp only [List.mem_cons, List.not_mem_nil, or_false] at hj
            rcases hj with rfl | rfl | rfl | rfl | rfl | rfl | rfl | rfl | rfl | rfl | rfl
            · refine wpOp_step (o := _) rfl fun K' hK' => ?_
              have HK := hide (fun (v : Value) (W' : World) h1 h2 => hK' _ _ (hK v W' h1 h2))
              simp only [upd, Nat.reduceEqDiff, if_true, if_false] at HK
              have bw := of_drew hp.bel
              have k0 := (HCP.out W bw).2.2.2.os.o
              have q09 : W.cell? ⟨b, 0, none⟩ = some (.slice p1 xs.length q1) := k0.cell 0
              have q19 : W.cell? ⟨b, 1, none⟩ = some (.slice p2 ys.length q2) := k0.cell 1
              have q29 : W.cell? ⟨b, 2, none⟩ = some (.slice (some ⟨g3, 0, none⟩) is.length q3) := k0.cell 2
              have q39 : W.cell? ⟨b, 3, none⟩ = some (.slice (some ⟨g4, 0, none⟩) bs.length q4) := k0.cell 3
              clear k0 bw
              clear hK hK' hp hd
              go_simp
              exact HK.out _ _ (Below.refl _ _) rfl
            · refine wpOp_step (o := _) rfl fun K' hK' => ?_
              have HK := hide (fun (v : Value) (W' : World) h1 h2 => hK' _ _ (hK v W' h1 h2))
              simp only [upd, Nat.reduceEqDiff, if_true, if_false] at HK
              clear hK hK' hp hd
              go_simp
              exact HK.out _ _ (Below.refl _ _) rfl
            · refine wpOp_step (o := _) rfl fun K' hK' => ?_
              have HK := hide (fun (v : Value) (W' : World) h1 h2 => hK' _ _ (hK v W' h1 h2))
              simp only [upd, Nat.reduceEqDiff, if_true, if_false] at HK
              have e1 : x 1 = .pointer (some ⟨xb, 2, none⟩) := hp.post 1 (hd 1 (show 1 ∈ [1] from by decide))
              have bw := of_drew hp.bel
              have q5 := (HCP.out W bw).2.2.1
              clear bw
              clear hK hK' hp hd
              simp only [e1] at HK ⊢
              go_simp
              exact HK.out _ _ (Below.refl _ _) rfl
            · refine wpOp_step (o := _) rfl fun K' hK' => ?_
              have HK := hide (fun (v : Value) (W' : World) h1 h2 => hK' _ _ (hK v W' h1 h2))
              simp only [upd, Nat.reduceEqDiff, if_true, if_false] at HK
              clear hK hK' hp hd
              go_simp
              exact HK.out _ _ (Below.refl _ _) rfl
            · refine wpOp_step (o := _) rfl fun K' hK' => ?_
              have HK := hide (fun (v : Value) (W' : World) h1 h2 => hK' _ _ (hK v W' h1 h2))
              simp only [upd, Nat.reduceEqDiff, if_true, if_false] at HK
              have e2 : x 2 = .slice (some ⟨gp, 0, none⟩) 2 cp := hp.post 2 (hd 2 (show 2 ∈ [2, 3] from by decide))
              have e3 : x 3 = .int .i64 (t : Int) := hp.post 3 (hd 3 (show 3 ∈ [2, 3] from by decide))
              clear hK hK' hp hd
              simp only [e2, e3] at HK ⊢
              go_simp
              exact HK.out _ _ (Below.refl _ _) rfl
            · refine wpOp_step (o := _) rfl fun K' hK' => ?_
              have HK := hide (fun (v : Value) (W' : World) h1 h2 => hK' _ _ (hK v W' h1 h2))
              simp only [upd, Nat.reduceEqDiff, if_true, if_false] at HK
              have e4 : x 4 = .pointer (some ⟨gp, t, none⟩) := hp.post 4 (hd 4 (show 4 ∈ [4] from by decide))
              have bw := of_drew hp.bel
              have q5 := (HCP.out W bw).1
              clear bw
              clear hK hK' hp hd
              simp only [e4] at HK ⊢
              go_simp
              exact HK.out _ _ (Below.refl _ _) rfl
            · refine wpOp_step (o := _) rfl fun K' hK' => ?_
              have HK := hide (fun (v : Value) (W' : World) h1 h2 => hK' _ _ (hK v W' h1 h2))
              simp only [upd, Nat.reduceEqDiff, if_true, if_false] at HK
              have e0 : x 0 = .agg #[.slice p1 xs.length q1, .slice p2 ys.length q2, .slice (some ⟨g3, 0, none⟩) is.length q3, .slice (some ⟨g4, 0, none⟩) bs.length q4] := hp.post 0 (hd 0 (show 0 ∈ [0, 5] from by decide))
              have e5 : x 5 = .int .i64 pn := hp.post 5 (hd 5 (show 5 ∈ [0, 5] from by decide))
              have dr := of_drew hp.bel
              clear hK hK' hp hd
              simp only [e0, e5] at HK ⊢
              clear e0 e5
              go_simp
              refine (CB.out W dr).mono ?_
              rintro e w6 ⟨rfl, B6⟩
              go_simp
              exact HK.out _ _ B6 ⟨_, _, rfl, rfl, rfl⟩
            · refine wpOp_step (o := _) rfl fun K' hK' => ?_
              have HK := hide (fun (v : Value) (W' : World) h1 h2 => hK' _ _ (hK v W' h1 h2))
              simp only [upd, Nat.reduceEqDiff, if_true, if_false] at HK
              have e6 : ∃ a r, x 6 = .tuple #[a, r] ∧ BkE (.agg #[.bool bd, .slice sa sn sc, .string btx]) F (iw 6).1 (iw 6).2 W a r := hp.post 6 (hd 6 (show 6 ∈ [6] from by decide))
              clear hK hK' hp hd
              obtain ⟨a, r, e6, -⟩ := e6
              have ea := hide e6
              simp only [e6] at HK ⊢
              clear e6
              go_simp
              exact HK.out _ _ (Below.refl _ _) ⟨ea.out, a, r, rfl⟩
            · refine wpOp_step (o := _) rfl fun K' hK' => ?_
              have HK := hide (fun (v : Value) (W' : World) h1 h2 => hK' _ _ (hK v W' h1 h2))
              simp only [upd, Nat.reduceEqDiff, if_true, if_false] at HK
              have e7 : x 6 = x 7 ∧ ∃ a r, x 7 = .tuple #[a, r] := hp.post 7 (hd 7 (show 7 ∈ [7] from by decide))
              clear hK hK' hp hd
              obtain ⟨-, a, r, e7⟩ := e7
              have ea : Hid (a = fstOf (x 7)) := by rw [e7]; rfl
              simp only [e7] at HK ⊢
              clear e7
              go_simp
              exact HK.out _ _ (Below.refl _ _) ea.out
            · refine wpOp_step (o := _) rfl fun K' hK' => ?_
              have HK := hide (fun (v : Value) (W' : World) h1 h2 => hK' _ _ (hK v W' h1 h2))
              simp only [upd, Nat.reduceEqDiff, if_true, if_false] at HK
              have e7 : x 6 = x 7 ∧ ∃ a r, x 7 = .tuple #[a, r] := hp.post 7 (hd 7 (show 7 ∈ [7] from by decide))
              clear hK hK' hp hd
              obtain ⟨-, a, r, e7⟩ := e7
              have ea : Hid (r = sndOf (x 7)) := by rw [e7]; rfl
              simp only [e7] at HK ⊢
              clear e7
              go_simp
              exact HK.out _ _ (Below.refl _ _) ea.out
            · refine wpOp_step (o := _) rfl fun K' hK' => ?_
              have HK := hide (fun (v : Value) (W' : World) h1 h2 => hK' _ _ (hK v W' h1 h2))
              simp only [upd, Nat.reduceEqDiff, if_true, if_false] at HK
              clear hK hK' hp hd
              go_simp
              exact HK.out _ _ ((Below.refl _ W).alloc (Nat.le_refl _) _) ⟨rfl, by simp, AtC.new W 70 _⟩
          · intro x iw W hp
            obtain ⟨a, r, e6, R6⟩ := hp.post 6 (by decide)
            obtain ⟨e7, -⟩ := hp.post 7 (by decide)
            have e8 : x 8 = fstOf (x 7) := hp.post 8 (by decide)
            have e9 : x 9 = sndOf (x 7) := hp.post 9 (by decide)
            obtain ⟨e10, z10, A10⟩ := hp.post 10 (by decide)
            have l10 := hp.lo 10 (by decide)
            have lc := hp.lo 6 (by decide)
            have bel := of_drew hp.bel
            have ap := hp.apart 6 (by decide) 10 (by decide) (by decide)
            rw [← e7, e6] at e8
            rw [← e7, e6] at e9
            replace e9 : x 9 = r := e9
            rw [e6] at e7
            replace e7 := e7.symm
            replace e8 : x 8 = a := e8
            have y0 : W.cell? ⟨(iw 10).1, 0, none⟩ = some (.bool false) := A10.cell 0
            have f0 := A10.frozen 0
            have y1 : W.cell? ⟨(iw 10).1, 1, none⟩ = some (.slice none 0 0) := A10.cell 1
            have f1 := A10.frozen 1
            have y2 : W.cell? ⟨(iw 10).1, 2, none⟩ = some (.string ⟨#[]⟩) := A10.cell 2
            have f2 := A10.frozen 2
            obtain ⟨rfl, rfl⟩ := R6
            have hb10 : wo.heap.size ≤ (iw 10).1 := l10.1
            have HFI : Hid (AtC W (iw 10).1 70 #[.bool false, .slice none 0 0, .string ⟨#[]⟩] ∧ Below wo.heap.size wo W ∧ wo.heap.size ≤ (iw 10).1) := ⟨A10, bel, hb10⟩
            clear hp A10 bel ap lc l10 z10 hb10
            simp only [e7, e8, e10, e9] at *
            generalize (iw 10).1 = bw at *
            go_wp2_with fail
            try rw [List.filterMap_nil]
            try go_wp2_with fail
            go_meet
            exact ⟨bw, rfl, rfl, ((HFI.out.1.set 0 _).set 1 _).set 2 _, ((HFI.out.2.1.setCell (p := ⟨bw, 0, none⟩) HFI.out.2.2 _).setCell (p := ⟨bw, 1, none⟩) HFI.out.2.2 _).setCell (p := ⟨bw, 2, none⟩) HFI.out.2.2 _, HFI.out.2.2⟩
          · intro qa hqa l hl x iw W hp
            simp only [List.mem_cons, List.not_mem_nil, or_false] at hqa
            subst hqa
            simp only [List.mem_cons, List.not_mem_nil, or_false] at hl
            obtain ⟨a, r, e6, R6⟩ := hp.post 6 (by decide)
            obtain ⟨e7, -⟩ := hp.post 7 (by decide)
            have e8 : x 8 = fstOf (x 7) := hp.post 8 (by decide)
            obtain ⟨e10, z10, A10⟩ := hp.post 10 (by decide)
            have l10 := hp.lo 10 (by decide)
            have lc := hp.lo 6 (by decide)
            have bel := of_drew hp.bel
            have ap := hp.apart 6 (by decide) 10 (by decide) (by decide)
            rw [← e7, e6] at e8
            rw [e6] at e7
            replace e7 := e7.symm
            replace e8 : x 8 = a := e8
            have y0 : W.cell? ⟨(iw 10).1, 0, none⟩ = some (.bool false) := A10.cell 0
            have f0 := A10.frozen 0
            have y1 : W.cell? ⟨(iw 10).1, 1, none⟩ = some (.slice none 0 0) := A10.cell 1
            have f1 := A10.frozen 1
            have y2 : W.cell? ⟨(iw 10).1, 2, none⟩ = some (.string ⟨#[]⟩) := A10.cell 2
            have f2 := A10.frozen 2
            obtain ⟨rfl, rfl⟩ := R6
            have hb10 : wo.heap.size ≤ (iw 10).1 := l10.1
            have HFI : Hid (AtC W (iw 10).1 70 #[.bool false, .slice none 0 0, .string ⟨#[]⟩] ∧ Below wo.heap.size wo W ∧ wo.heap.size ≤ (iw 10).1) := ⟨A10, bel, hb10⟩
            clear hp A10 bel ap lc l10 z10 hb10
            simp only [e7, e8, e10] at *
            generalize (iw 10).1 = bw at *
            rcases hl with rfl | rfl
            · go_wp2_with fail
              try rw [List.filterMap_nil]
              try go_wp2_with fail
              go_meet
              exact ⟨bw, rfl, rfl, ((HFI.out.1.set 0 _).set 1 _).set 2 _, ((HFI.out.2.1.setCell (p := ⟨bw, 0, none⟩) HFI.out.2.2 _).setCell (p := ⟨bw, 1, none⟩) HFI.out.2.2 _).setCell (p := ⟨bw, 2, none⟩) HFI.out.2.2 _, HFI.out.2.2⟩
            · go_wp2_with fail
              try rw [List.filterMap_nil]
              try go_wp2_with fail
              go_meet
              exact ⟨bw, rfl, rfl, ((HFI.out.1.set 0 _).set 1 _).set 2 _, ((HFI.out.2.1.setCell (p := ⟨bw, 0, none⟩) HFI.out.2.2 _).setCell (p := ⟨bw, 1, none⟩) HFI.out.2.2 _).setCell (p := ⟨bw, 2, none⟩) HFI.out.2.2 _, HFI.out.2.2⟩
        case rest =>
          obtain ⟨bw, rfl, rfl, Aw, Bw, lw⟩ := hcut
          obtain ⟨kp1, lp1, kx2, nv9⟩ := HCP.out wc Bw
          have HN9 := hide ((HCP.out wo (Below.refl _ _)).2.2.2.box Bw Aw lw)
          have b0 : wc.cell? ⟨bw, 0, none⟩ = some (.bool bd) := Aw.cell 0
          have HTN : Hid (¬ (2 : Int) = 2 → t + 1 = 0) := fun e => absurd rfl e
          clear Aw Bw lw nv9 HCP CB HT
          cases F with
          | false =>
            have HE : Hid (stK is bs j (t + 1) = st) := by show _ = _; rw [HS1.out]; rfl
            go_wp2
            go_roundw
            case rel => exact ⟨dv', kv', nv', t + 1, rfl, rfl, rfl, by omega, by go_num, by rw [HE.out, HCUR.out]; exact ⟨HN9.out.less (fun e he => List.mem_cons_of_mem _ he), (fun e => by simp at e)⟩⟩
            case measure => simp [intOf]; omega
          | true =>
            rw [if_pos rfl] at HS1
            have hin' := inB_true HFF.out
            obtain ⟨m, rfl⟩ : ∃ m : Nat, pn = (m : Int) + 1 := ⟨(pn - 1).toNat, by omega⟩
            have hm16 : m < 16 := by omega
            have HDB := hide (HBA.out m rfl hm16)
            have HS3 := hide (HS2.out HFF.out)
            rw [show ((m : Int) + 1 - 1).toNat = m by omega] at HS3
            have HST : Hid (stepU is bs st ((j : Int) + 1, (m : Int) + 1) = if (!bd || st.2.contains ((m : Int) + 1)) = true then st else (st.1 ++ tlQ ((j : Int) + 1) m (bs.getD m zB).2.1 (bs.getD m zB).2.1.length, st.2 ++ [(m : Int) + 1])) := by
              show stepU is bs st ((j : Int) + 1, (m : Int) + 1) = _
              unfold stepU
              rw [HKQ.out.1, ← HDB.out, show ((m : Int) + 1 - 1).toNat = m by omega, blkAt_getD (by rw [HB16.out]; exact hm16)]
              simp
            rw [HST.out] at HS1
            clear hin' HBA HS2 HST
            cases bd with
            | false =>
              have HE : Hid (stK is bs j (t + 1) = st) := by show _ = _; rw [HS1.out]; rfl
              go_wp2
              go_roundw
              case rel => exact ⟨dv', kv', nv', t + 1, rfl, rfl, rfl, by omega, by go_num, by rw [HE.out, HCUR.out]; exact ⟨HN9.out.less (fun e he => List.mem_cons_of_mem _ he), (fun e => by simp at e)⟩⟩
              case measure => simp [intOf]; omega
            | true =>
            have CH := hide (has10_any kv' st.2 ((m : Int) + 1) wc HN9.out.k.rints (by have := HKL.out; omega))
            go_wp2_with fail
            refine CH.out.mono ?_
            rintro e w7 ⟨rfl, hw7⟩
            subst hw7
            cases hc : st.2.contains ((m : Int) + 1) with
            | true =>
              have HE : Hid (stK is bs j (t + 1) = st) := by show _ = _; rw [HS1.out, hc]; rfl
              go_wp2
              go_roundw
              case rel => exact ⟨dv', kv', nv', t + 1, rfl, rfl, rfl, by omega, by go_num, by rw [HE.out, HCUR.out]; exact ⟨HN9.out.less (fun e he => List.mem_cons_of_mem _ he), (fun e => by simp at e)⟩⟩
              case measure => simp [intOf]; omega
            | false =>
            rw [hc, show (!true || false) = false from rfl, if_neg (by decide)] at HS1
            have HNC := hide hc
            have HAL : Hid (Below w7.heap.size w7 (w7.alloc (.cells #[.int .i64 ((m : Int) + 1)] 3)) ∧ ROwns (w7.alloc (.cells #[.int .i64 ((m : Int) + 1)] 3)) n0 3 kv' (ic st.2) ∧ n0 ≤ (w7.alloc (.cells #[.int .i64 ((m : Int) + 1)] 3)).heap.size ∧ (w7.alloc (.cells #[.int .i64 ((m : Int) + 1)] 3)).cell? ⟨w7.heap.size, 0, none⟩ = some (.int .i64 ((m : Int) + 1))) := ⟨(Below.refl _ w7).alloc (Nat.le_refl _) _, HN9.out.k.alloc _, by have := HN9.out.os.nn; simp; omega, (AtC.new w7 3 _).cell 0⟩
            have HTL : Hid ((ic st.2).length ≤ 100000000000) := by have := HKL.out; show _ ≤ _; rw [ic_length]; omega
            obtain ⟨ss, hss⟩ : ∃ x, (bs.getD m zB).2.1 = x := ⟨_, rfl⟩
            have HSS' := hide hss
            rw [hss] at HS1
            have HSN : Hid (sn = ss.length ∧ (tb.getD m zB3).2.1 = .slice sa sn sc) := ⟨by rw [HS3.out.1, HNI.out.ln, hss], HS3.out.2⟩
            have hsn := HSN.out.1
            subst hsn
            have hss4 : ss.length ≤ 4 := by rw [← hss, getD_in (by rw [HB16.out]; exact hm16)]; exact HX.out.r.four _ (List.getElem_mem _)
            clear hc hss b0
            go_wp2_with (at_builtin; refine wpList_step fun K' hK' => ?_; refine step_append_one _ rfl (.tmp 72) (.tmp 78) 56 rfl n0 3 Tryz.u56 _ 8 Tryz.i3 rfl (by decide) kv' _ rfl HAL.out.2.1 HAL.out.2.2.1 w7.heap.size (.int .i64 ((m : Int) + 1)) rfl HAL.out.2.2.2 rfl HTL.out ?_; intro v9 w9 T9 G9 V9; refine hK' _ _ ?_; have HA9 := hide ((HN9.out.below HAL.out.1).appK (z := (m : Int) + 1) (by rw [show ic (st.2 ++ [(m : Int) + 1]) = ic st.2 ++ [.int .i64 ((m : Int) + 1)] by simp [ic]]; exact T9) G9 V9); clear T9 G9 V9 hK')
            have HTS : Hid (∀ s, s ≤ ss.length → TI bs (st.1 ++ tlQ ((j : Int) + 1) m ss s, st.2 ++ [(m : Int) + 1])) := fun s hs => by
              have := HTI.out.add ((j : Int) + 1) m (by rw [HB16.out]; exact hm16) HNC.out s (by rw [HSS'.out]; exact hs)
              rw [HSS'.out] at this
              exact this
            have HS0 : Hid (NV w w9 b n0 #[.slice a1 xs.length c1, .slice a2 ys.length c2, .slice a3 is.length c3, .slice a4 bs.length c4] (.slice p1 xs.length q1) (.slice p2 ys.length q2) (.slice (some ⟨g3, 0, none⟩) is.length q3) (.slice (some ⟨g4, 0, none⟩) bs.length q4) ti tb xs ys is (curT is bs (st.1 ++ tlQ ((j : Int) + 1) m ss 0)) dv' v9 nv' (DS is (curT is bs (st.1 ++ tlQ ((j : Int) + 1) m ss 0)) (st.1 ++ tlQ ((j : Int) + 1) m ss 0)) (st.2 ++ [(m : Int) + 1]) (NM (curT is bs (st.1 ++ tlQ ((j : Int) + 1) m ss 0)) ((j : Int) + 1) (st.1 ++ tlQ ((j : Int) + 1) m ss 0)) [(bw, 70, #[.bool true, .slice sa ss.length sc, .string btx]), (xb, 65, #[.int .i64 2, .int .i64 lj, .slice (some ⟨gp, 0, none⟩) 2 cp])]) := by
              rw [show tlQ ((j : Int) + 1) m ss 0 = [] from rfl, List.append_nil, HCUR.out]
              exact HA9.out
            clear HA9 HAL HN9 kp1 kx2 lp1
            go_wp2_with fail
            go_loopw [4, 8, 12] (fun dv nv sv wr => ∃ (d' n' : Value) (s : Nat), d' = dv ∧ n' = nv ∧ s ≤ ss.length ∧ sv = .int .i64 s ∧ Hid (NV w wr b n0 #[.slice a1 xs.length c1, .slice a2 ys.length c2, .slice a3 is.length c3, .slice a4 bs.length c4] (.slice p1 xs.length q1) (.slice p2 ys.length q2) (.slice (some ⟨g3, 0, none⟩) is.length q3) (.slice (some ⟨g4, 0, none⟩) bs.length q4) ti tb xs ys is (curT is bs (st.1 ++ tlQ ((j : Int) + 1) m ss s)) d' v9 n' (DS is (curT is bs (st.1 ++ tlQ ((j : Int) + 1) m ss s)) (st.1 ++ tlQ ((j : Int) + 1) m ss s)) (st.2 ++ [(m : Int) + 1]) (NM (curT is bs (st.1 ++ tlQ ((j : Int) + 1) m ss s)) ((j : Int) + 1) (st.1 ++ tlQ ((j : Int) + 1) m ss s)) [(bw, 70, #[.bool true, .slice sa ss.length sc, .string btx]), (xb, 65, #[.int .i64 2, .int .i64 lj, .slice (some ⟨gp, 0, none⟩) 2 cp])])) (fun _ _ sv _ => ss.length - (intOf sv).toNat)
            case atStart => exact ⟨_, _, 0, rfl, rfl, Nat.zero_le _, rfl, HS0.out⟩
            case round =>
              obtain ⟨dw, nw, s, hdw, hnw, hs, rfl, HU⟩ := hrel
              subst hdw hnw
              clear HS0
              have s0 : (0 : Int) ≤ (s : Int) := by omega
              have bw1 : wr.cell? ⟨bw, 1, none⟩ = some (.slice sa ss.length sc) := (HU.out.bx _ (List.mem_cons_self)).1.cell 1
              by_cases hsl : s < ss.length
              rotate_left
              · have s1 : ¬ ((s : Int) < (ss.length : Int)) := by omega
                have HE : Hid (stK is bs j (t + 1) = (st.1 ++ tlQ ((j : Int) + 1) m ss s, st.2 ++ [(m : Int) + 1])) := by show _ = _; rw [HS1.out, show s = ss.length by omega]
                go_wp2
                go_roundw
                case rel => exact ⟨dw, v9, nw, t + 1, rfl, rfl, rfl, by omega, by go_num, by rw [HE.out]; exact ⟨HU.out.less (fun e he => List.mem_cons_of_mem _ he), (fun e => by simp at e)⟩⟩
                case measure => simp [intOf]; omega
              have s1 : (s : Int) < (ss.length : Int) := by omega
              have HSQ := hide (tlQ_succ ((j : Int) + 1) m ss s)
              have HTI2 := hide (HTS.out s hs)
              have HLT : Hid ((st.1 ++ tlQ ((j : Int) + 1) m ss s).length ≤ 100) := by have h1 := tlQ_len ((j : Int) + 1) m ss s; have := HLN.out; show _ ≤ _; rw [List.length_append]; omega
              have HDJ : Hid (∀ a ∈ st.1 ++ tlQ ((j : Int) + 1) m ss s, ¬ a.2 = (m, s)) := fun a ha e => by
                rcases List.mem_append.1 ha with h1 | h1
                · have h2 := (HTI.out.h a h1).2.1
                  rw [e, HNC.out] at h2
                  cases h2
                · have h2 := (mem_tlQ h1).2.2.1
                  rw [e] at h2
                  simp only at h2
                  omega
              have HTT : Hid (∀ x ∈ st.1 ++ tlQ ((j : Int) + 1) m ss s, InT bs x) := fun x hx => (HTI2.out.h x hx).1
              have HIB : Hid (InT bs ((j : Int) + 1, m, s)) := ⟨by rw [HB16.out]; exact hm16, by show s < _; rw [HSS'.out]; exact hsl⟩
              obtain ⟨Ts, hTs⟩ : ∃ x, st.1 ++ tlQ ((j : Int) + 1) m ss s = x := ⟨_, rfl⟩
              have HTs := hide hTs
              rw [hTs] at HU HTI2 HLT HDJ HTT
              have HNI2 : Hid (NI xs ys is bs (curT is bs Ts)) := (NI.begin HO.out).run Ts []
              have HSO : Hid (slotN (curT is bs Ts) ((j : Int) + 1, m, s) = slotN bs ((j : Int) + 1, m, s)) := slotN_other is Ts [] bs _ (fun x hx => ⟨HTT.out x hx, fun e => HDJ.out x hx e.symm⟩)
              have HRN := hide (runN_snoc is Ts ((j : Int) + 1, m, s) bs)
              obtain ⟨cs, hcs⟩ : ∃ x, curT is bs Ts = x := ⟨_, rfl⟩
              have HCS := hide hcs
              rw [hcs] at HU HNI2 HSO
              have HRN2 : Hid (curT is bs (Ts ++ [((j : Int) + 1, m, s)]) = stepN is Ts cs ((j : Int) + 1, m, s)) := by rw [← hcs]; exact HRN.out
              have HIC : Hid (∀ x, InT bs x → InT cs x) := fun x hx => ⟨by have e1 := (diskOk_parts HNI2.out.ok).2.2.2.2; have e2 := HB16.out; have := hx.1; omega, by rw [HNI2.out.ln]; exact hx.2⟩
              obtain ⟨gs, cc, es, ea, ks0, ks1, -, hgs, -⟩ := slot_cells HU.out.os.d ((j : Int) + 1, m, s) (HIC.out _ HIB.out)
              simp only at es ks0 ks1
              have HES := hide es
              rw [HSN.out.2] at es
              simp only [Value.slice.injEq] at es
              obtain ⟨rfl, -, -⟩ := es
              obtain ⟨⟨nm, si⟩, hslot⟩ : ∃ x, slotN cs ((j : Int) + 1, m, s) = x := ⟨_, rfl⟩
              have HSLT := hide hslot
              rw [hslot] at ks0 ks1
              simp only at ks0 ks1
              have hnm : (ss.getD s noS).1 = nm := by
                have h1 := HSO.out
                rw [hslot] at h1
                have h2 : slotN bs ((j : Int) + 1, m, s) = ss.getD s noS := by unfold slotN; rw [HSS'.out]
                rw [← h2, ← h1]
              rw [hnm] at HSQ
              clear hTs hcs hslot hnm ea
              by_cases hse : nm = ⟨#[]⟩
              · subst hse
                have HE : Hid (st.1 ++ tlQ ((j : Int) + 1) m ss (s + 1) = Ts) := by show _ = _; rw [HSQ.out, if_pos rfl, List.append_nil, HTs.out]
                go_wp2
                go_roundw
                case rel => exact ⟨dw, nw, s + 1, rfl, rfl, by omega, by go_num, by rw [HE.out, HCS.out]; exact HU.out⟩
                case measure => simp [intOf]; omega
              have hse2 : (nm.toList == ([] : List UInt8)) = false := beq_empty hse
              have HE : Hid (st.1 ++ tlQ ((j : Int) + 1) m ss (s + 1) = Ts ++ [((j : Int) + 1, m, s)]) := by show _ = _; rw [HSQ.out, if_neg hse, ← List.append_assoc, HTs.out]
              have hir : 1 ≤ si ∧ si ≤ 8 := by
                have hr := (RX.of_ok HNI2.out.ok).sr (cs.getD m zB) (by rw [getD_in (HIC.out _ HIB.out).1]; exact List.getElem_mem _) (slotN cs ((j : Int) + 1, m, s)) (by unfold slotN; rw [getD_in (HIC.out _ HIB.out).2]; exact List.getElem_mem _)
                rw [HSLT.out] at hr
                exact hr.resolve_left hse
              obtain ⟨i8, rfl⟩ : ∃ i8 : Nat, si = (i8 : Int) + 1 := ⟨(si - 1).toNat, by omega⟩
              have hi8 : i8 < 8 := by omega
              have HNE : Hid (¬ (slotN cs ((j : Int) + 1, m, s)).1 = ⟨#[]⟩) := by rw [HSLT.out]; exact hse
              have HKB : Hid (keepB is (nm, (i8 : Int) + 1) (NM cs ((j : Int) + 1) Ts) (DS is cs Ts) = !badT is Ts cs ((j : Int) + 1, m, s)) := by
                have := keep_bad HNI2.out.ok (T := Ts) (fun x hx => HIC.out x (HTT.out x hx)) (t := ((j : Int) + 1, m, s)) HNE.out (by rw [HSLT.out]; show 1 ≤ (i8 : Int) + 1; omega)
                rw [HSLT.out] at this
                exact this
              have HCELL : Hid (∀ (W : World) (d' n' : Value) (di' : List Int) (na' : List ByteArray), NV w W b n0 #[.slice a1 xs.length c1, .slice a2 ys.length c2, .slice a3 is.length c3, .slice a4 bs.length c4] (.slice p1 xs.length q1) (.slice p2 ys.length q2) (.slice (some ⟨g3, 0, none⟩) is.length q3) (.slice (some ⟨g4, 0, none⟩) bs.length q4) ti tb xs ys is cs d' v9 n' di' (st.2 ++ [(m : Int) + 1]) na' [(bw, 70, #[.bool true, .slice (some ⟨gs, 0, none⟩) ss.length sc, .string btx]), (xb, 65, #[.int .i64 2, .int .i64 lj, .slice (some ⟨gp, 0, none⟩) 2 cp])] → W.cell? ⟨gs, s * 2, none⟩ = some (.string nm) ∧ W.cell? ⟨gs, s * 2 + 1, none⟩ = some (.int .i64 ((i8 : Int) + 1)) ∧ (∀ k, W.frozen? ⟨gs, k, none⟩ = false) ∧ gs < W.heap.size ∧ W.cell? ⟨bw, 1, none⟩ = some (.slice (some ⟨gs, 0, none⟩) ss.length sc) ∧ W.cell? ⟨xb, 2, none⟩ = some (.slice (some ⟨gp, 0, none⟩) 2 cp) ∧ W.cell? ⟨gp, t, none⟩ = some (.int .i64 ((m : Int) + 1)) ∧ W.cell? ⟨g4, m * 3 + 1, none⟩ = some (.slice (some ⟨gs, 0, none⟩) ss.length sc) ∧ W.cell? ⟨g3, i8 * 3, none⟩ = some (.int .i64 (kindAt is ((i8 : Int) + 1)))) := fun W d' n' di' na' h1 => by
                obtain ⟨g', c', es', -, k0', k1', f', l', -⟩ := slot_cells h1.os.d ((j : Int) + 1, m, s) (HIC.out _ HIB.out)
                have hes := HES.out
                simp only at es'
                rw [hes] at es'
                simp only [Value.slice.injEq, Option.some.injEq, Addr.mk.injEq] at es'
                obtain ⟨⟨rfl, -⟩, -, -⟩ := es'
                rw [HSLT.out] at k0' k1'
                obtain ⟨-, -, -, -, -, -, -, -, -, ro, -⟩ := h1.os.d.ino j hlt
                rw [HEP.out] at ro
                obtain ⟨g', c', e', kp, -, -, -, -⟩ := ro.at t (by rw [ic_length]; exact ht2)
                simp only [Value.slice.injEq, Option.some.injEq, Addr.mk.injEq] at e'
                obtain ⟨⟨rfl, -⟩, -, -⟩ := e'
                obtain ⟨g', c', eb, -, -, -, kb1, -, -, -⟩ := h1.os.d.blk m (HIC.out _ HIB.out).1
                simp only [Value.slice.injEq, Option.some.injEq, Addr.mk.injEq] at eb
                obtain ⟨⟨rfl, -⟩, -, -⟩ := eb
                rw [HSN.out.2] at kb1
                have hii : i8 < is.length := by rw [HI8.out]; exact hi8
                obtain ⟨g', c', ei, -, -, -, ki, -⟩ := h1.os.d.ino i8 hii
                simp only [Value.slice.injEq, Option.some.injEq, Addr.mk.injEq] at ei
                obtain ⟨⟨rfl, -⟩, -, -⟩ := ei
                refine ⟨k0', k1', f', l', (h1.bx _ (List.mem_cons_self)).1.cell 1, (h1.bx _ (List.mem_cons_of_mem _ (List.mem_cons_self))).1.cell 2, ?_, kb1, by rw [(kindAt_in hii).1]; exact ki⟩
                rw [kp]
                simp only [ic, List.getElem?_map, List.getElem?_eq_getElem ht2, HPN.out]
                rfl
              have HW21 := hide (fun (W : World) (hb : Below wr.heap.size wr W) => And.intro (HU.out.below hb) (HCELL.out W dw nw _ _ (HU.out.below hb)))
              have CKE := hide (fun (W : World) (hb : Below wr.heap.size wr W) => keep_any nm i8 nw dw (NM cs ((j : Int) + 1) Ts) (DS is cs Ts) (.slice p1 xs.length q1) (.slice p2 ys.length q2) (.slice (some ⟨g3, 0, none⟩) is.length q3) (.slice (some ⟨g4, 0, none⟩) bs.length q4) xs ys is cs W (HU.out.below hb).os.d.dr (RX.of_ok HNI2.out.ok).r hi8 (tx_rtx (HU.out.below hb).n) (HU.out.below hb).d.rints (by have h1 := NM_len cs ((j : Int) + 1) Ts; have := HLT.out; omega) (by have h1 := DS_len is cs Ts; have := HLT.out; omega))
              rw [HKB.out] at CKE
              have HNMC := hide (NM_clr cs ((j : Int) + 1) Ts (t := ((j : Int) + 1, m, s)) (HIC.out _ HIB.out) HDJ.out)
              have HDSC := hide (DS_clr is cs Ts (t := ((j : Int) + 1, m, s)) (HIC.out _ HIB.out) HDJ.out)
              have HNMK := hide (NM_keep cs Ts (t := ((j : Int) + 1, m, s)) HNE.out)
              have HDSK := hide (DS_keep is cs Ts (t := ((j : Int) + 1, m, s)) HNE.out)
              rw [HSLT.out] at HNMK HDSK
              simp only at HNMK HDSK
              have HCLR := hide (fun (W : World) (hb : Below wr.heap.size wr W) => (HU.out.below hb).clr ((j : Int) + 1, m, s) (HIC.out _ HIB.out) HES.out)
              have m0 : (0 : Int) ≤ (m : Int) := by omega
              have m1 : (m : Int) < (bs.length : Int) := by have := HB16.out; omega
              have hwm : IntKind.i64.wrap (m : Int) = (m : Int) := wrap_small _ (by omega) (by omega)
              have i0 : (0 : Int) ≤ (i8 : Int) := by omega
              have i1 : (i8 : Int) < (is.length : Int) := by have := HI8.out; omega
              have hwi : IntKind.i64.wrap (i8 : Int) = (i8 : Int) := wrap_small _ (by omega) (by omega)
              clear hse hir
              cases hbad : badT is Ts cs ((j : Int) + 1, m, s) with
              | true =>
                rw [hbad] at CKE
                have HCT : Hid (curT is bs (Ts ++ [((j : Int) + 1, m, s)]) = clrS cs ((j : Int) + 1, m, s)) := by show _ = _; rw [HRN2.out]; unfold stepN; rw [hbad]; rfl
                clear hbad
                go_upto_region 21 with fail
                clear ks0 ks1 bw1
                refine wp_region_alt (by kernel_rfl) [0, 1, 2, 3, 4, 5, 6, 7, 8, 9] [] [] (fun i => match i with | 0 => .const [] (.agg #[.slice p1 xs.length q1, .slice p2 ys.length q2, .slice (some ⟨g3, 0, none⟩) is.length q3, .slice (some ⟨g4, 0, none⟩) bs.length q4]) | 1 => .const [] (.pointer (some ⟨bw, 1, none⟩)) | 2 => .const [1] (.slice (some ⟨gs, 0, none⟩) ss.length sc) | 3 => .const [] (.int .i64 (s : Int)) | 4 => .const [2, 3] (.pointer (some ⟨gs, s * 2, none⟩)) | 5 => .const [4] (.agg #[.string nm, .int .i64 ((i8 : Int) + 1)]) | 6 => .const [] (nw) | 7 => .const [] (dw) | 8 => .const [0, 5, 6, 7] (.bool false) | 9 => .const [8] (.bool true) | _ => .triv) (fun x => ⟨List.toArray ((Value.agg #[Value.slice a1 xs.length c1, Value.slice a2 ys.length c2, Value.slice a3 is.length c3, Value.slice a4 bs.length c4]) :: (Value.pointer (some { block := w.heap.size, off := 0 })) :: (Value.pointer (some { block := w.heap.size + 1, off := 0 })) :: (Value.pointer (some { block := b, off := 0 })) :: (dw) :: (v9) :: (Value.int IntKind.i64 ↑j) :: (Value.pointer (some { block := xb, off := 0 })) :: (nw) :: (Value.int IntKind.i64 ↑t) :: (Value.pointer (some { block := bw, off := 0 })) :: (Value.bool true) :: (Value.int IntKind.i64 ↑s) :: (Value.agg #[Value.slice a1 xs.length c1, Value.slice a2 ys.length c2, Value.slice a3 is.length c3, Value.slice a4 bs.length c4]) :: (Value.agg #[Value.slice p1 xs.length q1, Value.slice p2 ys.length q2, Value.slice (some { block := g3, off := 0 }) is.length q3, Value.slice (some { block := g4, off := 0 }) bs.length q4]) :: (Value.agg #[Value.slice a1 xs.length c1, Value.slice a2 ys.length c2, Value.slice a3 is.length c3, Value.slice a4 bs.length c4]) :: (Value.bool true) :: (Value.bool false) :: (undef) :: (Value.slice (some { block := n0, off := 0 }) 0 0) :: (Value.slice (some { block := n0 + 1, off := 0 }) 0 0) :: (Value.int IntKind.i64 ↑j) :: (Value.pointer (some { block := b, off := 2 })) :: (Value.slice (some { block := g3, off := 0 }) is.length q3) :: (Value.int IntKind.i64 ↑is.length) :: (Value.bool true) :: (u26) :: (u27) :: (Value.pointer (some { block := b, off := 2 })) :: (Value.slice (some { block := g3, off := 0 }) is.length q3) :: (Value.int IntKind.i64 ↑j) :: (Value.pointer (some { block := g3, off := j * 3 })) :: (Value.agg #[Value.int IntKind.i64 2, Value.int IntKind.i64 lj, Value.slice (some { block := gp, off := 0 }) 2 cp]) :: (Value.slice (some { block := xb + 1, off := 0 }) 0 0) :: (u34) :: (u35) :: (u36) :: (u37) :: (u38) :: (u39) :: (u40) :: (u41) :: (u42) :: (u43) :: (u44) :: (u45) :: (u46) :: (u47) :: (u48) :: (u49) :: (u50) :: (u51) :: (u52) :: (u53) :: (u54) :: (u55) :: (Value.bool true) :: (Value.bool false) :: (Value.bool false) :: (Value.pointer (some { block := bw, off := 0 })) :: (Value.bool true) :: (Value.bool false) :: (Value.bool false) :: (Value.bool false) :: (kv') :: (Value.pointer (some { block := xb, off := 2 })) :: (Value.slice (some { block := gp, off := 0 }) 2 cp) :: (Value.int IntKind.i64 ↑t) :: (Value.pointer (some { block := gp, off := t })) :: (Value.int IntKind.i64 (↑m + 1)) :: (Value.bool false) :: (Value.bool false) :: (kv') :: (Value.pointer (some { block := xb, off := 2 })) :: (Value.slice (some { block := gp, off := 0 }) 2 cp) :: (Value.int IntKind.i64 ↑t) :: (Value.pointer (some { block := gp, off := t })) :: (Value.int IntKind.i64 (↑m + 1)) :: (Value.slice (some { block := w7.heap.size, off := 0 }) 1 1) :: (v9) :: (Value.int IntKind.i64 ↑s) :: (Value.pointer (some { block := bw, off := 1 })) :: (Value.slice (some { block := gs, off := 0 }) ss.length sc) :: (Value.int IntKind.i64 ↑ss.length) :: (Value.bool true) :: (u85) :: (u86) :: (Value.pointer (some { block := bw, off := 1 })) :: (Value.slice (some { block := gs, off := 0 }) ss.length sc) :: (Value.int IntKind.i64 ↑s) :: (Value.pointer (some { block := gs, off := s * 2 })) :: (Value.pointer (some { block := gs, off := s * 2 })) :: (Value.string nm) :: (Value.bool false) :: (x 0) :: (x 1) :: (x 2) :: (x 3) :: (x 4) :: (x 5) :: (x 6) :: (x 7) :: (x 8) :: (x 9) :: (u104) :: (u105) :: (u106) :: (u107) :: (u108) :: (u109) :: (u110) :: (u111) :: (u112) :: (u113) :: (u114) :: (u115) :: (u116) :: (u117) :: (u118) :: (u119) :: (u120) :: (u121) :: (u122) :: (u123) :: (u124) :: (u125) :: (u126) :: (u127) :: (u128) :: (u129) :: (u130) :: (u131) :: (u132) :: (u133) :: (u134) :: (u135) :: (u136) :: (u137) :: (u138) :: (u139) :: (u140) :: (u141) :: (u142) :: (u143) :: (u144) :: (u145) :: (u146) :: (u147) :: (u148) :: (undef) :: []), []⟩) (fun i => match i with | 0 => u94 | 1 => u95 | 2 => u96 | 3 => u97 | 4 => u98 | 5 => u99 | 6 => u100 | 7 => u101 | 8 => u102 | 9 => u103 | _ => undef) rfl (makersOk2_of (by kernel_rfl) (by kernel_rfl)) (by kernel_rfl) (by kernel_rfl) (by kernel_rfl) rfl ?_ ?_ (by intro q hq; cases hq)
                · intro jo hj so x iw W hd hp K hK
                  simp only [List.mem_cons, List.not_mem_nil, or_false] at hj
                  rcases hj with rfl | rfl | rfl | rfl | rfl | rfl | rfl | rfl | rfl | rfl
                  · refine wpOp_step (o := _) rfl fun K' hK' => ?_
                    have HK := hide (fun (v : Value) (W' : World) h1 h2 => hK' _ _ (hK v W' h1 h2))
                    simp only [upd, Nat.reduceEqDiff, if_true, if_false] at HK
                    have bw := of_drew hp.bel
                    have k0 := (HW21.out W bw).1.os.o
                    have q09 : W.cell? ⟨b, 0, none⟩ = some (.slice p1 xs.length q1) := k0.cell 0
                    have q19 : W.cell? ⟨b, 1, none⟩ = some (.slice p2 ys.length q2) := k0.cell 1
                    have q29 : W.cell? ⟨b, 2, none⟩ = some (.slice (some ⟨g3, 0, none⟩) is.length q3) := k0.cell 2
                    have q39 : W.cell? ⟨b, 3, none⟩ = some (.slice (some ⟨g4, 0, none⟩) bs.length q4) := k0.cell 3
                    clear k0 bw
                    clear hK hK' hp hd
                    go_simp
                    exact HK.out _ _ (Below.refl _ _) rfl
                  · refine wpOp_step (o := _) rfl fun K' hK' => ?_
                    have HK := hide (fun (v : Value) (W' : World) h1 h2 => hK' _ _ (hK v W' h1 h2))
                    simp only [upd, Nat.reduceEqDiff, if_true, if_false] at HK
                    clear hK hK' hp hd
                    go_simp
                    exact HK.out _ _ (Below.refl _ _) rfl
                  · refine wpOp_step (o := _) rfl fun K' hK' => ?_
                    have HK := hide (fun (v : Value) (W' : World) h1 h2 => hK' _ _ (hK v W' h1 h2))
                    simp only [upd, Nat.reduceEqDiff, if_true, if_false] at HK
                    have e1 : x 1 = .pointer (some ⟨bw, 1, none⟩) := hp.post 1 (hd 1 (show 1 ∈ [1] from by decide))
                    have bw := of_drew hp.bel
                    have q5 := (HW21.out W bw).2.2.2.2.2.1
                    clear bw
                    clear hK hK' hp hd
                    simp only [e1] at HK ⊢
                    go_simp
                    exact HK.out _ _ (Below.refl _ _) rfl
                  · refine wpOp_step (o := _) rfl fun K' hK' => ?_
                    have HK := hide (fun (v : Value) (W' : World) h1 h2 => hK' _ _ (hK v W' h1 h2))
                    simp only [upd, Nat.reduceEqDiff, if_true, if_false] at HK
                    clear hK hK' hp hd
                    go_simp
                    exact HK.out _ _ (Below.refl _ _) rfl
                  · refine wpOp_step (o := _) rfl fun K' hK' => ?_
                    have HK := hide (fun (v : Value) (W' : World) h1 h2 => hK' _ _ (hK v W' h1 h2))
                    simp only [upd, Nat.reduceEqDiff, if_true, if_false] at HK
                    have e2 : x 2 = .slice (some ⟨gs, 0, none⟩) ss.length sc := hp.post 2 (hd 2 (show 2 ∈ [2, 3] from by decide))
                    have e3 : x 3 = .int .i64 (s : Int) := hp.post 3 (hd 3 (show 3 ∈ [2, 3] from by decide))
                    clear hK hK' hp hd
                    simp only [e2, e3] at HK ⊢
                    go_simp
                    exact HK.out _ _ (Below.refl _ _) rfl
                  · refine wpOp_step (o := _) rfl fun K' hK' => ?_
                    have HK := hide (fun (v : Value) (W' : World) h1 h2 => hK' _ _ (hK v W' h1 h2))
                    simp only [upd, Nat.reduceEqDiff, if_true, if_false] at HK
                    have e4 : x 4 = .pointer (some ⟨gs, s * 2, none⟩) := hp.post 4 (hd 4 (show 4 ∈ [4] from by decide))
                    have bw := of_drew hp.bel
                    have q5 := (HW21.out W bw).2.1
                    have q6 := (HW21.out W bw).2.2.1
                    clear bw
                    clear hK hK' hp hd
                    simp only [e4] at HK ⊢
                    go_simp
                    exact HK.out _ _ (Below.refl _ _) rfl
                  · refine wpOp_step (o := _) rfl fun K' hK' => ?_
                    have HK := hide (fun (v : Value) (W' : World) h1 h2 => hK' _ _ (hK v W' h1 h2))
                    simp only [upd, Nat.reduceEqDiff, if_true, if_false] at HK
                    clear hK hK' hp hd
                    go_simp
                    exact HK.out _ _ (Below.refl _ _) rfl
                  · refine wpOp_step (o := _) rfl fun K' hK' => ?_
                    have HK := hide (fun (v : Value) (W' : World) h1 h2 => hK' _ _ (hK v W' h1 h2))
                    simp only [upd, Nat.reduceEqDiff, if_true, if_false] at HK
                    clear hK hK' hp hd
                    go_simp
                    exact HK.out _ _ (Below.refl _ _) rfl
                  · refine wpOp_step (o := _) rfl fun K' hK' => ?_
                    have HK := hide (fun (v : Value) (W' : World) h1 h2 => hK' _ _ (hK v W' h1 h2))
                    simp only [upd, Nat.reduceEqDiff, if_true, if_false] at HK
                    have e0 : x 0 = .agg #[.slice p1 xs.length q1, .slice p2 ys.length q2, .slice (some ⟨g3, 0, none⟩) is.length q3, .slice (some ⟨g4, 0, none⟩) bs.length q4] := hp.post 0 (hd 0 (show 0 ∈ [0, 5, 6, 7] from by decide))
                    have e5 : x 5 = .agg #[.string nm, .int .i64 ((i8 : Int) + 1)] := hp.post 5 (hd 5 (show 5 ∈ [0, 5, 6, 7] from by decide))
                    have e6 : x 6 = nw := hp.post 6 (hd 6 (show 6 ∈ [0, 5, 6, 7] from by decide))
                    have e7 : x 7 = dw := hp.post 7 (hd 7 (show 7 ∈ [0, 5, 6, 7] from by decide))
                    have dr := of_drew hp.bel
                    clear hK hK' hp hd
                    simp only [e0, e5, e6, e7] at HK ⊢
                    clear e0 e5 e6 e7
                    go_simp
                    refine (CKE.out W dr).mono ?_
                    rintro e w6 ⟨rfl, B6⟩
                    go_simp
                    exact HK.out _ _ B6 rfl
                  · refine wpOp_step (o := _) rfl fun K' hK' => ?_
                    have HK := hide (fun (v : Value) (W' : World) h1 h2 => hK' _ _ (hK v W' h1 h2))
                    simp only [upd, Nat.reduceEqDiff, if_true, if_false] at HK
                    have e8 : x 8 = .bool false := hp.post 8 (hd 8 (show 8 ∈ [8] from by decide))
                    clear hK hK' hp hd
                    simp only [e8] at HK ⊢
                    go_simp
                    exact HK.out _ _ (Below.refl _ _) rfl
                · intro x iw W hp
                  have e9 : x 9 = .bool true := hp.post 9 (by decide)
                  have bel : Below wr.heap.size wr W := of_drew hp.bel
                  simp only [e9]
                  clear hp e9
                  generalize x 0 = yy0 at *
                  generalize x 1 = yy1 at *
                  generalize x 2 = yy2 at *
                  generalize x 3 = yy3 at *
                  generalize x 4 = yy4 at *
                  generalize x 5 = yy5 at *
                  generalize x 6 = yy6 at *
                  generalize x 7 = yy7 at *
                  generalize x 8 = yy8 at *
                  try rw [List.filterMap_nil]
                  have HW22 := hide (fun (X : World) (hb : Below W.heap.size W X) => HW21.out X (bel.trans (hb.mono bel.size)))
                  have HCL2 := hide (fun (X : World) (hb : Below W.heap.size W X) => HCLR.out X (bel.trans (hb.mono bel.size)))
                  obtain ⟨W2, hW2⟩ : ∃ X, X = W := ⟨_, rfl⟩
                  subst hW2
                  clear bel HW21 HCLR CKE
                  go_upto_region 22 with fail
                  refine wp_region_alt (by kernel_rfl) [0, 1, 2, 3, 4, 5, 6, 7, 8, 9, 10, 11, 12, 13] [14] [] (fun i => match i with | 0 => .const [] (.pointer (some ⟨b, 3, none⟩)) | 1 => .const [0] (.slice (some ⟨g4, 0, none⟩) bs.length q4) | 2 => .const [] (.pointer (some ⟨xb, 2, none⟩)) | 3 => .const [2] (.slice (some ⟨gp, 0, none⟩) 2 cp) | 4 => .const [] (.int .i64 (t : Int)) | 5 => .const [3, 4] (.pointer (some ⟨gp, t, none⟩)) | 6 => .const [5] (.int .i64 ((m : Int) + 1)) | 7 => .const [6] (.int .i64 (m : Int)) | 8 => .const [1, 7] (.pointer (some ⟨g4, m * 3, none⟩)) | 9 => .const [8] (.pointer (some ⟨g4, m * 3 + 1, none⟩)) | 10 => .const [9] (.slice (some ⟨gs, 0, none⟩) ss.length sc) | 11 => .const [] (.int .i64 (s : Int)) | 12 => .const [] (.agg #[.string ⟨#[]⟩, .int .i64 0]) | 13 => .const [10, 11] (.pointer (some ⟨gs, s * 2, none⟩)) | _ => .triv) (fun x => ⟨List.toArray ((Value.agg #[Value.slice a1 xs.length c1, Value.slice a2 ys.length c2, Value.slice a3 is.length c3, Value.slice a4 bs.length c4]) :: (Value.pointer (some { block := w.heap.size, off := 0 })) :: (Value.pointer (some { block := w.heap.size + 1, off := 0 })) :: (Value.pointer (some { block := b, off := 0 })) :: (dw) :: (v9) :: (Value.int IntKind.i64 ↑j) :: (Value.pointer (some { block := xb, off := 0 })) :: (nw) :: (Value.int IntKind.i64 ↑t) :: (Value.pointer (some { block := bw, off := 0 })) :: (Value.bool true) :: (Value.int IntKind.i64 ↑s) :: (Value.agg #[Value.slice a1 xs.length c1, Value.slice a2 ys.length c2, Value.slice a3 is.length c3, Value.slice a4 bs.length c4]) :: (Value.agg #[Value.slice p1 xs.length q1, Value.slice p2 ys.length q2, Value.slice (some { block := g3, off := 0 }) is.length q3, Value.slice (some { block := g4, off := 0 }) bs.length q4]) :: (Value.agg #[Value.slice a1 xs.length c1, Value.slice a2 ys.length c2, Value.slice a3 is.length c3, Value.slice a4 bs.length c4]) :: (Value.bool true) :: (Value.bool false) :: (undef) :: (Value.slice (some { block := n0, off := 0 }) 0 0) :: (Value.slice (some { block := n0 + 1, off := 0 }) 0 0) :: (Value.int IntKind.i64 ↑j) :: (Value.pointer (some { block := b, off := 2 })) :: (Value.slice (some { block := g3, off := 0 }) is.length q3) :: (Value.int IntKind.i64 ↑is.length) :: (Value.bool true) :: (u26) :: (u27) :: (Value.pointer (some { block := b, off := 2 })) :: (Value.slice (some { block := g3, off := 0 }) is.length q3) :: (Value.int IntKind.i64 ↑j) :: (Value.pointer (some { block := g3, off := j * 3 })) :: (Value.agg #[Value.int IntKind.i64 2, Value.int IntKind.i64 lj, Value.slice (some { block := gp, off := 0 }) 2 cp]) :: (Value.slice (some { block := xb + 1, off := 0 }) 0 0) :: (u34) :: (u35) :: (u36) :: (u37) :: (u38) :: (u39) :: (u40) :: (u41) :: (u42) :: (u43) :: (u44) :: (u45) :: (u46) :: (u47) :: (u48) :: (u49) :: (u50) :: (u51) :: (u52) :: (u53) :: (u54) :: (u55) :: (Value.bool true) :: (Value.bool false) :: (Value.bool false) :: (Value.pointer (some { block := bw, off := 0 })) :: (Value.bool true) :: (Value.bool false) :: (Value.bool false) :: (Value.bool false) :: (kv') :: (Value.pointer (some { block := xb, off := 2 })) :: (Value.slice (some { block := gp, off := 0 }) 2 cp) :: (Value.int IntKind.i64 ↑t) :: (Value.pointer (some { block := gp, off := t })) :: (Value.int IntKind.i64 (↑m + 1)) :: (Value.bool false) :: (Value.bool false) :: (kv') :: (Value.pointer (some { block := xb, off := 2 })) :: (Value.slice (some { block := gp, off := 0 }) 2 cp) :: (Value.int IntKind.i64 ↑t) :: (Value.pointer (some { block := gp, off := t })) :: (Value.int IntKind.i64 (↑m + 1)) :: (Value.slice (some { block := w7.heap.size, off := 0 }) 1 1) :: (v9) :: (Value.int IntKind.i64 ↑s) :: (Value.pointer (some { block := bw, off := 1 })) :: (Value.slice (some { block := gs, off := 0 }) ss.length sc) :: (Value.int IntKind.i64 ↑ss.length) :: (Value.bool true) :: (u85) :: (u86) :: (Value.pointer (some { block := bw, off := 1 })) :: (Value.slice (some { block := gs, off := 0 }) ss.length sc) :: (Value.int IntKind.i64 ↑s) :: (Value.pointer (some { block := gs, off := s * 2 })) :: (Value.pointer (some { block := gs, off := s * 2 })) :: (Value.string nm) :: (Value.bool false) :: (yy0) :: (yy1) :: (yy2) :: (yy3) :: (yy4) :: (yy5) :: (yy6) :: (yy7) :: (yy8) :: (Value.bool true) :: (x 0) :: (x 1) :: (x 2) :: (x 3) :: (x 4) :: (x 5) :: (x 6) :: (x 7) :: (x 8) :: (x 9) :: (x 10) :: (x 11) :: (x 12) :: (x 13) :: (u118) :: (u119) :: (u120) :: (u121) :: (u122) :: (u123) :: (u124) :: (u125) :: (u126) :: (u127) :: (u128) :: (u129) :: (u130) :: (u131) :: (u132) :: (u133) :: (u134) :: (u135) :: (u136) :: (u137) :: (u138) :: (u139) :: (u140) :: (u141) :: (u142) :: (u143) :: (u144) :: (u145) :: (u146) :: (u147) :: (u148) :: (undef) :: []), []⟩) (fun i => match i with | 0 => u104 | 1 => u105 | 2 => u106 | 3 => u107 | 4 => u108 | 5 => u109 | 6 => u110 | 7 => u111 | 8 => u112 | 9 => u113 | 10 => u114 | 11 => u115 | 12 => u116 | 13 => u117 | _ => undef) rfl (makersOk2_of (by kernel_rfl) (by kernel_rfl)) (by kernel_rfl) (by kernel_rfl) (by kernel_rfl) rfl ?_ ?_ (by intro q hq; cases hq)
                  · intro jo hj so x iw W hd hp K hK
                    simp only [List.mem_cons, List.not_mem_nil, or_false] at hj
                    rcases hj with rfl | rfl | rfl | rfl | rfl | rfl | rfl | rfl | rfl | rfl | rfl | rfl | rfl | rfl
                    · refine wpOp_step (o := _) rfl fun K' hK' => ?_
                      have HK := hide (fun (v : Value) (W' : World) h1 h2 => hK' _ _ (hK v W' h1 h2))
                      simp only [upd, Nat.reduceEqDiff, if_true, if_false] at HK
                      clear hK hK' hp hd
                      go_simp
                      exact HK.out _ _ (Below.refl _ _) rfl
                    · refine wpOp_step (o := _) rfl fun K' hK' => ?_
                      have HK := hide (fun (v : Value) (W' : World) h1 h2 => hK' _ _ (hK v W' h1 h2))
                      simp only [upd, Nat.reduceEqDiff, if_true, if_false] at HK
                      have e0 : x 0 = .pointer (some ⟨b, 3, none⟩) := hp.post 0 (hd 0 (show 0 ∈ [0] from by decide))
                      have bw := of_drew hp.bel
                      have q5 : W.cell? ⟨b, 3, none⟩ = some (.slice (some ⟨g4, 0, none⟩) bs.length q4) := (HW22.out W bw).1.os.o.cell 3
                      clear bw
                      clear hK hK' hp hd
                      simp only [e0] at HK ⊢
                      go_simp
                      exact HK.out _ _ (Below.refl _ _) rfl
                    · refine wpOp_step (o := _) rfl fun K' hK' => ?_
                      have HK := hide (fun (v : Value) (W' : World) h1 h2 => hK' _ _ (hK v W' h1 h2))
                      simp only [upd, Nat.reduceEqDiff, if_true, if_false] at HK
                      clear hK hK' hp hd
                      go_simp
                      exact HK.out _ _ (Below.refl _ _) rfl
                    · refine wpOp_step (o := _) rfl fun K' hK' => ?_
                      have HK := hide (fun (v : Value) (W' : World) h1 h2 => hK' _ _ (hK v W' h1 h2))
                      simp only [upd, Nat.reduceEqDiff, if_true, if_false] at HK
                      have e2 : x 2 = .pointer (some ⟨xb, 2, none⟩) := hp.post 2 (hd 2 (show 2 ∈ [2] from by decide))
                      have bw := of_drew hp.bel
                      have q5 := (HW22.out W bw).2.2.2.2.2.2.1
                      clear bw
                      clear hK hK' hp hd
                      simp only [e2] at HK ⊢
                      go_simp
                      exact HK.out _ _ (Below.refl _ _) rfl
                    · refine wpOp_step (o := _) rfl fun K' hK' => ?_
                      have HK := hide (fun (v : Value) (W' : World) h1 h2 => hK' _ _ (hK v W' h1 h2))
                      simp only [upd, Nat.reduceEqDiff, if_true, if_false] at HK
                      clear hK hK' hp hd
                      go_simp
                      exact HK.out _ _ (Below.refl _ _) rfl
                    · refine wpOp_step (o := _) rfl fun K' hK' => ?_
                      have HK := hide (fun (v : Value) (W' : World) h1 h2 => hK' _ _ (hK v W' h1 h2))
                      simp only [upd, Nat.reduceEqDiff, if_true, if_false] at HK
                      have e3 : x 3 = .slice (some ⟨gp, 0, none⟩) 2 cp := hp.post 3 (hd 3 (show 3 ∈ [3, 4] from by decide))
                      have e4 : x 4 = .int .i64 (t : Int) := hp.post 4 (hd 4 (show 4 ∈ [3, 4] from by decide))
                      clear hK hK' hp hd
                      simp only [e3, e4] at HK ⊢
                      go_simp
                      exact HK.out _ _ (Below.refl _ _) rfl
                    · refine wpOp_step (o := _) rfl fun K' hK' => ?_
                      have HK := hide (fun (v : Value) (W' : World) h1 h2 => hK' _ _ (hK v W' h1 h2))
                      simp only [upd, Nat.reduceEqDiff, if_true, if_false] at HK
                      have e5 : x 5 = .pointer (some ⟨gp, t, none⟩) := hp.post 5 (hd 5 (show 5 ∈ [5] from by decide))
                      have bw := of_drew hp.bel
                      have q5 := (HW22.out W bw).2.2.2.2.2.2.2.1
                      clear bw
                      clear hK hK' hp hd
                      simp only [e5] at HK ⊢
                      go_simp
                      exact HK.out _ _ (Below.refl _ _) rfl
                    · refine wpOp_step (o := _) rfl fun K' hK' => ?_
                      have HK := hide (fun (v : Value) (W' : World) h1 h2 => hK' _ _ (hK v W' h1 h2))
                      simp only [upd, Nat.reduceEqDiff, if_true, if_false] at HK
                      have e6 : x 6 = .int .i64 ((m : Int) + 1) := hp.post 6 (hd 6 (show 6 ∈ [6] from by decide))
                      clear hK hK' hp hd
                      simp only [e6] at HK ⊢
                      go_simp
                      exact HK.out _ _ (Below.refl _ _) rfl
                    · refine wpOp_step (o := _) rfl fun K' hK' => ?_
                      have HK := hide (fun (v : Value) (W' : World) h1 h2 => hK' _ _ (hK v W' h1 h2))
                      simp only [upd, Nat.reduceEqDiff, if_true, if_false] at HK
                      have e1 : x 1 = .slice (some ⟨g4, 0, none⟩) bs.length q4 := hp.post 1 (hd 1 (show 1 ∈ [1, 7] from by decide))
                      have e7 : x 7 = .int .i64 (m : Int) := hp.post 7 (hd 7 (show 7 ∈ [1, 7] from by decide))
                      clear hK hK' hp hd
                      simp only [e1, e7] at HK ⊢
                      go_simp
                      exact HK.out _ _ (Below.refl _ _) rfl
                    · refine wpOp_step (o := _) rfl fun K' hK' => ?_
                      have HK := hide (fun (v : Value) (W' : World) h1 h2 => hK' _ _ (hK v W' h1 h2))
                      simp only [upd, Nat.reduceEqDiff, if_true, if_false] at HK
                      have e8 : x 8 = .pointer (some ⟨g4, m * 3, none⟩) := hp.post 8 (hd 8 (show 8 ∈ [8] from by decide))
                      clear hK hK' hp hd
                      simp only [e8] at HK ⊢
                      go_simp
                      exact HK.out _ _ (Below.refl _ _) rfl
                    · refine wpOp_step (o := _) rfl fun K' hK' => ?_
                      have HK := hide (fun (v : Value) (W' : World) h1 h2 => hK' _ _ (hK v W' h1 h2))
                      simp only [upd, Nat.reduceEqDiff, if_true, if_false] at HK
                      have e9 : x 9 = .pointer (some ⟨g4, m * 3 + 1, none⟩) := hp.post 9 (hd 9 (show 9 ∈ [9] from by decide))
                      have bw := of_drew hp.bel
                      have q5 := (HW22.out W bw).2.2.2.2.2.2.2.2.1
                      clear bw
                      clear hK hK' hp hd
                      simp only [e9] at HK ⊢
                      go_simp
                      exact HK.out _ _ (Below.refl _ _) rfl
                    · refine wpOp_step (o := _) rfl fun K' hK' => ?_
                      have HK := hide (fun (v : Value) (W' : World) h1 h2 => hK' _ _ (hK v W' h1 h2))
                      simp only [upd, Nat.reduceEqDiff, if_true, if_false] at HK
                      clear hK hK' hp hd
                      go_simp
                      exact HK.out _ _ (Below.refl _ _) rfl
                    · refine wpOp_step (o := _) rfl fun K' hK' => ?_
                      have HK := hide (fun (v : Value) (W' : World) h1 h2 => hK' _ _ (hK v W' h1 h2))
                      simp only [upd, Nat.reduceEqDiff, if_true, if_false] at HK
                      clear hK hK' hp hd
                      go_simp
                      exact HK.out _ _ (Below.refl _ _) rfl
                    · refine wpOp_step (o := _) rfl fun K' hK' => ?_
                      have HK := hide (fun (v : Value) (W' : World) h1 h2 => hK' _ _ (hK v W' h1 h2))
                      simp only [upd, Nat.reduceEqDiff, if_true, if_false] at HK
                      have e10 : x 10 = .slice (some ⟨gs, 0, none⟩) ss.length sc := hp.post 10 (hd 10 (show 10 ∈ [10, 11] from by decide))
                      have e11 : x 11 = .int .i64 (s : Int) := hp.post 11 (hd 11 (show 11 ∈ [10, 11] from by decide))
                      clear hK hK' hp hd
                      simp only [e10, e11] at HK ⊢
                      go_simp
                      exact HK.out _ _ (Below.refl _ _) rfl
                  · intro x iw W hp
                    have e12 : x 12 = .agg #[.string ⟨#[]⟩, .int .i64 0] := hp.post 12 (by decide)
                    have e13 : x 13 = .pointer (some ⟨gs, s * 2, none⟩) := hp.post 13 (by decide)
                    obtain ⟨-, k0, k1, ff, l0, -⟩ := HW22.out W (of_drew hp.bel)
                    have f0 := ff (s * 2)
                    have f1 := ff (s * 2 + 1)
                    have HZ := hide (HCL2.out W (of_drew hp.bel))
                    simp only [e12, e13]
                    clear hp e12 e13 ff
                    have HREL : Hid (NV w ((W.setCell ⟨gs, s * 2, none⟩ (.string ⟨#[]⟩)).setCell ⟨gs, s * 2 + 1, none⟩ (.int .i64 0)) b n0 #[.slice a1 xs.length c1, .slice a2 ys.length c2, .slice a3 is.length c3, .slice a4 bs.length c4] (.slice p1 xs.length q1) (.slice p2 ys.length q2) (.slice (some ⟨g3, 0, none⟩) is.length q3) (.slice (some ⟨g4, 0, none⟩) bs.length q4) ti tb xs ys is (curT is bs (st.1 ++ tlQ ((j : Int) + 1) m ss (s + 1))) dw v9 nw (DS is (curT is bs (st.1 ++ tlQ ((j : Int) + 1) m ss (s + 1))) (st.1 ++ tlQ ((j : Int) + 1) m ss (s + 1))) (st.2 ++ [(m : Int) + 1]) (NM (curT is bs (st.1 ++ tlQ ((j : Int) + 1) m ss (s + 1))) ((j : Int) + 1) (st.1 ++ tlQ ((j : Int) + 1) m ss (s + 1))) [(bw, 70, #[.bool true, .slice (some ⟨gs, 0, none⟩) ss.length sc, .string btx]), (xb, 65, #[.int .i64 2, .int .i64 lj, .slice (some ⟨gp, 0, none⟩) 2 cp])]) := by
                      rw [HE.out, HCT.out, HNMC.out, HDSC.out]
                      exact HZ.out
                    have HREL2 : Hid (∃ (d' n' : Value) (s2 : Nat), d' = dw ∧ n' = nw ∧ s2 ≤ ss.length ∧ (Value.int .i64 ((s : Int) + 1)) = .int .i64 s2 ∧ Hid (NV w ((W.setCell ⟨gs, s * 2, none⟩ (.string ⟨#[]⟩)).setCell ⟨gs, s * 2 + 1, none⟩ (.int .i64 0)) b n0 #[.slice a1 xs.length c1, .slice a2 ys.length c2, .slice a3 is.length c3, .slice a4 bs.length c4] (.slice p1 xs.length q1) (.slice p2 ys.length q2) (.slice (some ⟨g3, 0, none⟩) is.length q3) (.slice (some ⟨g4, 0, none⟩) bs.length q4) ti tb xs ys is (curT is bs (st.1 ++ tlQ ((j : Int) + 1) m ss s2)) d' v9 n' (DS is (curT is bs (st.1 ++ tlQ ((j : Int) + 1) m ss s2)) (st.1 ++ tlQ ((j : Int) + 1) m ss s2)) (st.2 ++ [(m : Int) + 1]) (NM (curT is bs (st.1 ++ tlQ ((j : Int) + 1) m ss s2)) ((j : Int) + 1) (st.1 ++ tlQ ((j : Int) + 1) m ss s2)) [(bw, 70, #[.bool true, .slice (some ⟨gs, 0, none⟩) ss.length sc, .string btx]), (xb, 65, #[.int .i64 2, .int .i64 lj, .slice (some ⟨gp, 0, none⟩) 2 cp])])) := ⟨dw, nw, s + 1, rfl, rfl, by omega, by simp, HREL.out⟩
                    go_wp2_with fail
                    try rw [List.filterMap_nil]
                    try go_wp2_with fail
                    go_roundw
                    case rel => first | exact ⟨dw, nw, s + 1, rfl, rfl, by omega, by go_num, HREL.out⟩ | ((repeat apply Exists.intro); exact ⟨HREL2.out, rfl⟩)
                    case measure => simp [intOf]; omega
              | false =>
                rw [hbad] at CKE
                have HCT : Hid (curT is bs (Ts ++ [((j : Int) + 1, m, s)]) = cs) := by show _ = _; rw [HRN2.out]; unfold stepN; rw [hbad]; rfl
                clear hbad
                go_upto_region 21 with fail
                clear ks0 ks1 bw1
                refine wp_region_alt (by kernel_rfl) [0, 1, 2, 3, 4, 5, 6, 7, 8, 9] [] [] (fun i => match i with | 0 => .const [] (.agg #[.slice p1 xs.length q1, .slice p2 ys.length q2, .slice (some ⟨g3, 0, none⟩) is.length q3, .slice (some ⟨g4, 0, none⟩) bs.length q4]) | 1 => .const [] (.pointer (some ⟨bw, 1, none⟩)) | 2 => .const [1] (.slice (some ⟨gs, 0, none⟩) ss.length sc) | 3 => .const [] (.int .i64 (s : Int)) | 4 => .const [2, 3] (.pointer (some ⟨gs, s * 2, none⟩)) | 5 => .const [4] (.agg #[.string nm, .int .i64 ((i8 : Int) + 1)]) | 6 => .const [] (nw) | 7 => .const [] (dw) | 8 => .const [0, 5, 6, 7] (.bool true) | 9 => .const [8] (.bool false) | _ => .triv) (fun x => ⟨List.toArray ((Value.agg #[Value.slice a1 xs.length c1, Value.slice a2 ys.length c2, Value.slice a3 is.length c3, Value.slice a4 bs.length c4]) :: (Value.pointer (some { block := w.heap.size, off := 0 })) :: (Value.pointer (some { block := w.heap.size + 1, off := 0 })) :: (Value.pointer (some { block := b, off := 0 })) :: (dw) :: (v9) :: (Value.int IntKind.i64 ↑j) :: (Value.pointer (some { block := xb, off := 0 })) :: (nw) :: (Value.int IntKind.i64 ↑t) :: (Value.pointer (some { block := bw, off := 0 })) :: (Value.bool true) :: (Value.int IntKind.i64 ↑s) :: (Value.agg #[Value.slice a1 xs.length c1, Value.slice a2 ys.length c2, Value.slice a3 is.length c3, Value.slice a4 bs.length c4]) :: (Value.agg #[Value.slice p1 xs.length q1, Value.slice p2 ys.length q2, Value.slice (some { block := g3, off := 0 }) is.length q3, Value.slice (some { block := g4, off := 0 }) bs.length q4]) :: (Value.agg #[Value.slice a1 xs.length c1, Value.slice a2 ys.length c2, Value.slice a3 is.length c3, Value.slice a4 bs.length c4]) :: (Value.bool true) :: (Value.bool false) :: (undef) :: (Value.slice (some { block := n0, off := 0 }) 0 0) :: (Value.slice (some { block := n0 + 1, off := 0 }) 0 0) :: (Value.int IntKind.i64 ↑j) :: (Value.pointer (some { block := b, off := 2 })) :: (Value.slice (some { block := g3, off := 0 }) is.length q3) :: (Value.int IntKind.i64 ↑is.length) :: (Value.bool true) :: (u26) :: (u27) :: (Value.pointer (some { block := b, off := 2 })) :: (Value.slice (some { block := g3, off := 0 }) is.length q3) :: (Value.int IntKind.i64 ↑j) :: (Value.pointer (some { block := g3, off := j * 3 })) :: (Value.agg #[Value.int IntKind.i64 2, Value.int IntKind.i64 lj, Value.slice (some { block := gp, off := 0 }) 2 cp]) :: (Value.slice (some { block := xb + 1, off := 0 }) 0 0) :: (u34) :: (u35) :: (u36) :: (u37) :: (u38) :: (u39) :: (u40) :: (u41) :: (u42) :: (u43) :: (u44) :: (u45) :: (u46) :: (u47) :: (u48) :: (u49) :: (u50) :: (u51) :: (u52) :: (u53) :: (u54) :: (u55) :: (Value.bool true) :: (Value.bool false) :: (Value.bool false) :: (Value.pointer (some { block := bw, off := 0 })) :: (Value.bool true) :: (Value.bool false) :: (Value.bool false) :: (Value.bool false) :: (kv') :: (Value.pointer (some { block := xb, off := 2 })) :: (Value.slice (some { block := gp, off := 0 }) 2 cp) :: (Value.int IntKind.i64 ↑t) :: (Value.pointer (some { block := gp, off := t })) :: (Value.int IntKind.i64 (↑m + 1)) :: (Value.bool false) :: (Value.bool false) :: (kv') :: (Value.pointer (some { block := xb, off := 2 })) :: (Value.slice (some { block := gp, off := 0 }) 2 cp) :: (Value.int IntKind.i64 ↑t) :: (Value.pointer (some { block := gp, off := t })) :: (Value.int IntKind.i64 (↑m + 1)) :: (Value.slice (some { block := w7.heap.size, off := 0 }) 1 1) :: (v9) :: (Value.int IntKind.i64 ↑s) :: (Value.pointer (some { block := bw, off := 1 })) :: (Value.slice (some { block := gs, off := 0 }) ss.length sc) :: (Value.int IntKind.i64 ↑ss.length) :: (Value.bool true) :: (u85) :: (u86) :: (Value.pointer (some { block := bw, off := 1 })) :: (Value.slice (some { block := gs, off := 0 }) ss.length sc) :: (Value.int IntKind.i64 ↑s) :: (Value.pointer (some { block := gs, off := s * 2 })) :: (Value.pointer (some { block := gs, off := s * 2 })) :: (Value.string nm) :: (Value.bool false) :: (x 0) :: (x 1) :: (x 2) :: (x 3) :: (x 4) :: (x 5) :: (x 6) :: (x 7) :: (x 8) :: (x 9) :: (u104) :: (u105) :: (u106) :: (u107) :: (u108) :: (u109) :: (u110) :: (u111) :: (u112) :: (u113) :: (u114) :: (u115) :: (u116) :: (u117) :: (u118) :: (u119) :: (u120) :: (u121) :: (u122) :: (u123) :: (u124) :: (u125) :: (u126) :: (u127) :: (u128) :: (u129) :: (u130) :: (u131) :: (u132) :: (u133) :: (u134) :: (u135) :: (u136) :: (u137) :: (u138) :: (u139) :: (u140) :: (u141) :: (u142) :: (u143) :: (u144) :: (u145) :: (u146) :: (u147) :: (u148) :: (undef) :: []), []⟩) (fun i => match i with | 0 => u94 | 1 => u95 | 2 => u96 | 3 => u97 | 4 => u98 | 5 => u99 | 6 => u100 | 7 => u101 | 8 => u102 | 9 => u103 | _ => undef) rfl (makersOk2_of (by kernel_rfl) (by kernel_rfl)) (by kernel_rfl) (by kernel_rfl) (by kernel_rfl) rfl ?_ ?_ (by intro q hq; cases hq)
                · intro jo hj so x iw W hd hp K hK
                  simp only [List.mem_cons, List.not_mem_nil, or_false] at hj
                  rcases hj with rfl | rfl | rfl | rfl | rfl | rfl | rfl | rfl | rfl | rfl
                  · refine wpOp_step (o := _) rfl fun K' hK' => ?_
                    have HK := hide (fun (v : Value) (W' : World) h1 h2 => hK' _ _ (hK v W' h1 h2))
                    simp only [upd, Nat.reduceEqDiff, if_true, if_false] at HK
                    have bw := of_drew hp.bel
                    have k0 := (HW21.out W bw).1.os.o
                    have q09 : W.cell? ⟨b, 0, none⟩ = some (.slice p1 xs.length q1) := k0.cell 0
                    have q19 : W.cell? ⟨b, 1, none⟩ = some (.slice p2 ys.length q2) := k0.cell 1
                    have q29 : W.cell? ⟨b, 2, none⟩ = some (.slice (some ⟨g3, 0, none⟩) is.length q3) := k0.cell 2
                    have q39 : W.cell? ⟨b, 3, none⟩ = some (.slice (some ⟨g4, 0, none⟩) bs.length q4) := k0.cell 3
                    clear k0 bw
                    clear hK hK' hp hd
                    go_simp
                    exact HK.out _ _ (Below.refl _ _) rfl
                  · refine wpOp_step (o := _) rfl fun K' hK' => ?_
                    have HK := hide (fun (v : Value) (W' : World) h1 h2 => hK' _ _ (hK v W' h1 h2))
                    simp only [upd, Nat.reduceEqDiff, if_true, if_false] at HK
                    clear hK hK' hp hd
                    go_simp
                    exact HK.out _ _ (Below.refl _ _) rfl
                  · refine wpOp_step (o := _) rfl fun K' hK' => ?_
                    have HK := hide (fun (v : Value) (W' : World) h1 h2 => hK' _ _ (hK v W' h1 h2))
                    simp only [upd, Nat.reduceEqDiff, if_true, if_false] at HK
                    have e1 : x 1 = .pointer (some ⟨bw, 1, none⟩) := hp.post 1 (hd 1 (show 1 ∈ [1] from by decide))
                    have bw := of_drew hp.bel
                    have q5 := (HW21.out W bw).2.2.2.2.2.1
                    clear bw
                    clear hK hK' hp hd
                    simp only [e1] at HK ⊢
                    go_simp
                    exact HK.out _ _ (Below.refl _ _) rfl
                  · refine wpOp_step (o := _) rfl fun K' hK' => ?_
                    have HK := hide (fun (v : Value) (W' : World) h1 h2 => hK' _ _ (hK v W' h1 h2))
                    simp only [upd, Nat.reduceEqDiff, if_true, if_false] at HK
                    clear hK hK' hp hd
                    go_simp
                    exact HK.out _ _ (Below.refl _ _) rfl
                  · refine wpOp_step (o := _) rfl fun K' hK' => ?_
                    have HK := hide (fun (v : Value) (W' : World) h1 h2 => hK' _ _ (hK v W' h1 h2))
                    simp only [upd, Nat.reduceEqDiff, if_true, if_false] at HK
                    have e2 : x 2 = .slice (some ⟨gs, 0, none⟩) ss.length sc := hp.post 2 (hd 2 (show 2 ∈ [2, 3] from by decide))
                    have e3 : x 3 = .int .i64 (s : Int) := hp.post 3 (hd 3 (show 3 ∈ [2, 3] from by decide))
                    clear hK hK' hp hd
                    simp only [e2, e3] at HK ⊢
                    go_simp
                    exact HK.out _ _ (Below.refl _ _) rfl
                  · refine wpOp_step (o := _) rfl fun K' hK' => ?_
                    have HK := hide (fun (v : Value) (W' : World) h1 h2 => hK' _ _ (hK v W' h1 h2))
                    simp only [upd, Nat.reduceEqDiff, if_true, if_false] at HK
                    have e4 : x 4 = .pointer (some ⟨gs, s * 2, none⟩) := hp.post 4 (hd 4 (show 4 ∈ [4] from by decide))
                    have bw := of_drew hp.bel
                    have q5 := (HW21.out W bw).2.1
                    have q6 := (HW21.out W bw).2.2.1
                    clear bw
                    clear hK hK' hp hd
                    simp only [e4] at HK ⊢
                    go_simp
                    exact HK.out _ _ (Below.refl _ _) rfl
                  · refine wpOp_step (o := _) rfl fun K' hK' => ?_
                    have HK := hide (fun (v : Value) (W' : World) h1 h2 => hK' _ _ (hK v W' h1 h2))
                    simp only [upd, Nat.reduceEqDiff, if_true, if_false] at HK
                    clear hK hK' hp hd
                    go_simp
                    exact HK.out _ _ (Below.refl _ _) rfl
                  · refine wpOp_step (o := _) rfl fun K' hK' => ?_
                    have HK := hide (fun (v : Value) (W' : World) h1 h2 => hK' _ _ (hK v W' h1 h2))
                    simp only [upd, Nat.reduceEqDiff, if_true, if_false] at HK
                    clear hK hK' hp hd
                    go_simp
                    exact HK.out _ _ (Below.refl _ _) rfl
                  · refine wpOp_step (o := _) rfl fun K' hK' => ?_
                    have HK := hide (fun (v : Value) (W' : World) h1 h2 => hK' _ _ (hK v W' h1 h2))
                    simp only [upd, Nat.reduceEqDiff, if_true, if_false] at HK
                    have e0 : x 0 = .agg #[.slice p1 xs.length q1, .slice p2 ys.length q2, .slice (some ⟨g3, 0, none⟩) is.length q3, .slice (some ⟨g4, 0, none⟩) bs.length q4] := hp.post 0 (hd 0 (show 0 ∈ [0, 5, 6, 7] from by decide))
                    have e5 : x 5 = .agg #[.string nm, .int .i64 ((i8 : Int) + 1)] := hp.post 5 (hd 5 (show 5 ∈ [0, 5, 6, 7] from by decide))
                    have e6 : x 6 = nw := hp.post 6 (hd 6 (show 6 ∈ [0, 5, 6, 7] from by decide))
                    have e7 : x 7 = dw := hp.post 7 (hd 7 (show 7 ∈ [0, 5, 6, 7] from by decide))
                    have dr := of_drew hp.bel
                    clear hK hK' hp hd
                    simp only [e0, e5, e6, e7] at HK ⊢
                    clear e0 e5 e6 e7
                    go_simp
                    refine (CKE.out W dr).mono ?_
                    rintro e w6 ⟨rfl, B6⟩
                    go_simp
                    exact HK.out _ _ B6 rfl
                  · refine wpOp_step (o := _) rfl fun K' hK' => ?_
                    have HK := hide (fun (v : Value) (W' : World) h1 h2 => hK' _ _ (hK v W' h1 h2))
                    simp only [upd, Nat.reduceEqDiff, if_true, if_false] at HK
                    have e8 : x 8 = .bool true := hp.post 8 (hd 8 (show 8 ∈ [8] from by decide))
                    clear hK hK' hp hd
                    simp only [e8] at HK ⊢
                    go_simp
                    exact HK.out _ _ (Below.refl _ _) rfl
                · intro x iw W hp
                  have e9 : x 9 = .bool false := hp.post 9 (by decide)
                  have bel : Below wr.heap.size wr W := of_drew hp.bel
                  simp only [e9]
                  clear hp e9
                  generalize x 0 = yy0 at *
                  generalize x 1 = yy1 at *
                  generalize x 2 = yy2 at *
                  generalize x 3 = yy3 at *
                  generalize x 4 = yy4 at *
                  generalize x 5 = yy5 at *
                  generalize x 6 = yy6 at *
                  generalize x 7 = yy7 at *
                  generalize x 8 = yy8 at *
                  try rw [List.filterMap_nil]
                  obtain ⟨nvW, k0, k1, ff, l0, kb1, -, -, -, kki⟩ := HW21.out W bel
                  have HNW := hide nvW
                  have HAL : Hid (Below W.heap.size W (W.alloc (.cells #[.string nm] 9)) ∧ ROwns (W.alloc (.cells #[.string nm] 9)) n0 9 nw (tx (NM cs ((j : Int) + 1) Ts)) ∧ n0 ≤ (W.alloc (.cells #[.string nm] 9)).heap.size ∧ (W.alloc (.cells #[.string nm] 9)).cell? ⟨W.heap.size, 0, none⟩ = some (.string nm)) := ⟨(Below.refl _ W).alloc (Nat.le_refl _) _, HNW.out.n.alloc _, by have := HNW.out.os.nn; simp; omega, (AtC.new W 9 _).cell 0⟩
                  have HTL : Hid ((tx (NM cs ((j : Int) + 1) Ts)).length ≤ 100000000000) := by have h1 := NM_len cs ((j : Int) + 1) Ts; have := HLT.out; show _ ≤ _; rw [tx_length]; omega
                  have HTD : Hid ((ic (DS is cs Ts)).length ≤ 100000000000) := by have h1 := DS_len is cs Ts; have := HLT.out; show _ ≤ _; rw [ic_length]; omega
                  clear nvW ff kki bel HW21 CKE HCLR
                  go_wp2_with (at_builtin; refine wpList_step fun K' hK' => ?_; refine step_append_one _ rfl (.tmp 118) (.tmp 125) 67 rfl n0 9 Tryz.u67 _ 16 Tryz.i9 rfl (by decide) nw _ rfl HAL.out.2.1 HAL.out.2.2.1 W.heap.size (.string nm) rfl HAL.out.2.2.2 rfl HTL.out ?_; intro v8 w8 T8 G8 V8; refine hK' _ _ ?_; have HA8 := hide ((HNW.out.below HAL.out.1).appN (z := nm) (by rw [show tx (NM cs ((j : Int) + 1) Ts ++ [nm]) = tx (NM cs ((j : Int) + 1) Ts) ++ [.string nm] by simp [tx]]; exact T8) G8 V8); clear T8 G8 V8 hK')
                  obtain ⟨ce0, ce1, -, cel, ceb, -, -, -, cek⟩ := HCELL.out w8 dw v8 _ _ HA8.out
                  have co : w8.cell? ⟨b, 2, none⟩ = some (.slice (some ⟨g3, 0, none⟩) is.length q3) := HA8.out.os.o.cell 2
                  obtain ⟨kd, hkd⟩ : ∃ k, kindAt is ((i8 : Int) + 1) = k := ⟨_, rfl⟩
                  rw [hkd] at cek HDSK
                  clear k0 k1 kb1 hkd HAL HNW HTL
                  go_upto_region 24 with fail
                  go_quiet (fail)
                  have HA9 := hide (HA8.out.below (below_drewN (Below.refl _ w8) nq))
                  have c0q : (w8.drewN nq).cell? ⟨bw, 1, none⟩ = _ := ceb
                  have c1q : (w8.drewN nq).cell? ⟨gs, s * 2 + 1, none⟩ = _ := ce1
                  generalize w8.drewN nq = wq at *
                  by_cases hk2 : kd = 2
                  · have n2 : (kd == 2) = true := by simp [hk2]
                    rw [if_pos hk2] at HDSK
                    have HAL : Hid (Below wq.heap.size wq (wq.alloc (.cells #[.int .i64 ((i8 : Int) + 1)] 3)) ∧ ROwns (wq.alloc (.cells #[.int .i64 ((i8 : Int) + 1)] 3)) n0 3 dw (ic (DS is cs Ts)) ∧ n0 ≤ (wq.alloc (.cells #[.int .i64 ((i8 : Int) + 1)] 3)).heap.size ∧ (wq.alloc (.cells #[.int .i64 ((i8 : Int) + 1)] 3)).cell? ⟨wq.heap.size, 0, none⟩ = some (.int .i64 ((i8 : Int) + 1))) := ⟨(Below.refl _ wq).alloc (Nat.le_refl _) _, HA9.out.d.alloc _, by have := HA9.out.os.nn; simp; omega, (AtC.new wq 3 _).cell 0⟩
                    clear hk2 HA8
                    go_wp2_with (at_builtin; refine wpList_step fun K' hK' => ?_; refine step_append_one _ rfl (.tmp 140) (.tmp 147) 56 rfl n0 3 Tryz.u56 _ 8 Tryz.i3 rfl (by decide) dw _ rfl HAL.out.2.1 HAL.out.2.2.1 wq.heap.size (.int .i64 ((i8 : Int) + 1)) rfl HAL.out.2.2.2 rfl HTD.out ?_; intro v7 w6 T7 G7 V7; refine hK' _ _ ?_; have HA7 := hide ((HA9.out.below HAL.out.1).appD (z := (i8 : Int) + 1) (by rw [show ic (DS is cs Ts ++ [(i8 : Int) + 1]) = ic (DS is cs Ts) ++ [.int .i64 ((i8 : Int) + 1)] by simp [ic]]; exact T7) G7 V7); clear T7 G7 V7 hK')
                    have HREL : Hid (NV w (w6) b n0 #[.slice a1 xs.length c1, .slice a2 ys.length c2, .slice a3 is.length c3, .slice a4 bs.length c4] (.slice p1 xs.length q1) (.slice p2 ys.length q2) (.slice (some ⟨g3, 0, none⟩) is.length q3) (.slice (some ⟨g4, 0, none⟩) bs.length q4) ti tb xs ys is (curT is bs (st.1 ++ tlQ ((j : Int) + 1) m ss (s + 1))) v7 v9 v8 (DS is (curT is bs (st.1 ++ tlQ ((j : Int) + 1) m ss (s + 1))) (st.1 ++ tlQ ((j : Int) + 1) m ss (s + 1))) (st.2 ++ [(m : Int) + 1]) (NM (curT is bs (st.1 ++ tlQ ((j : Int) + 1) m ss (s + 1))) ((j : Int) + 1) (st.1 ++ tlQ ((j : Int) + 1) m ss (s + 1))) [(bw, 70, #[.bool true, .slice (some ⟨gs, 0, none⟩) ss.length sc, .string btx]), (xb, 65, #[.int .i64 2, .int .i64 lj, .slice (some ⟨gp, 0, none⟩) 2 cp])]) := by
                      rw [HE.out, HCT.out, HNMK.out, HDSK.out]
                      exact HA7.out
                    have HREL2 : Hid (∃ (d' n' : Value) (s2 : Nat), d' = v7 ∧ n' = v8 ∧ s2 ≤ ss.length ∧ (Value.int .i64 ((s : Int) + 1)) = .int .i64 s2 ∧ Hid (NV w (w6) b n0 #[.slice a1 xs.length c1, .slice a2 ys.length c2, .slice a3 is.length c3, .slice a4 bs.length c4] (.slice p1 xs.length q1) (.slice p2 ys.length q2) (.slice (some ⟨g3, 0, none⟩) is.length q3) (.slice (some ⟨g4, 0, none⟩) bs.length q4) ti tb xs ys is (curT is bs (st.1 ++ tlQ ((j : Int) + 1) m ss s2)) d' v9 n' (DS is (curT is bs (st.1 ++ tlQ ((j : Int) + 1) m ss s2)) (st.1 ++ tlQ ((j : Int) + 1) m ss s2)) (st.2 ++ [(m : Int) + 1]) (NM (curT is bs (st.1 ++ tlQ ((j : Int) + 1) m ss s2)) ((j : Int) + 1) (st.1 ++ tlQ ((j : Int) + 1) m ss s2)) [(bw, 70, #[.bool true, .slice (some ⟨gs, 0, none⟩) ss.length sc, .string btx]), (xb, 65, #[.int .i64 2, .int .i64 lj, .slice (some ⟨gp, 0, none⟩) 2 cp])])) := ⟨v7, v8, s + 1, rfl, rfl, by omega, by simp, HREL.out⟩
                    go_roundw
                    case rel => first | exact ⟨v7, v8, s + 1, rfl, rfl, by omega, by go_num, HREL.out⟩ | ((repeat apply Exists.intro); exact ⟨HREL2.out, rfl⟩)
                    case measure => simp [intOf]; omega
                  · have n2 : (kd == 2) = false := by simp [hk2]
                    rw [if_neg hk2, List.append_nil] at HDSK
                    clear hk2 HA8
                    have HREL : Hid (NV w (wq) b n0 #[.slice a1 xs.length c1, .slice a2 ys.length c2, .slice a3 is.length c3, .slice a4 bs.length c4] (.slice p1 xs.length q1) (.slice p2 ys.length q2) (.slice (some ⟨g3, 0, none⟩) is.length q3) (.slice (some ⟨g4, 0, none⟩) bs.length q4) ti tb xs ys is (curT is bs (st.1 ++ tlQ ((j : Int) + 1) m ss (s + 1))) dw v9 v8 (DS is (curT is bs (st.1 ++ tlQ ((j : Int) + 1) m ss (s + 1))) (st.1 ++ tlQ ((j : Int) + 1) m ss (s + 1))) (st.2 ++ [(m : Int) + 1]) (NM (curT is bs (st.1 ++ tlQ ((j : Int) + 1) m ss (s + 1))) ((j : Int) + 1) (st.1 ++ tlQ ((j : Int) + 1) m ss (s + 1))) [(bw, 70, #[.bool true, .slice (some ⟨gs, 0, none⟩) ss.length sc, .string btx]), (xb, 65, #[.int .i64 2, .int .i64 lj, .slice (some ⟨gp, 0, none⟩) 2 cp])]) := by
                      rw [HE.out, HCT.out, HNMK.out, HDSK.out]
                      exact HA9.out
                    have HREL2 : Hid (∃ (d' n' : Value) (s2 : Nat), d' = dw ∧ n' = v8 ∧ s2 ≤ ss.length ∧ (Value.int .i64 ((s : Int) + 1)) = .int .i64 s2 ∧ Hid (NV w (wq) b n0 #[.slice a1 xs.length c1, .slice a2 ys.length c2, .slice a3 is.length c3, .slice a4 bs.length c4] (.slice p1 xs.length q1) (.slice p2 ys.length q2) (.slice (some ⟨g3, 0, none⟩) is.length q3) (.slice (some ⟨g4, 0, none⟩) bs.length q4) ti tb xs ys is (curT is bs (st.1 ++ tlQ ((j : Int) + 1) m ss s2)) d' v9 n' (DS is (curT is bs (st.1 ++ tlQ ((j : Int) + 1) m ss s2)) (st.1 ++ tlQ ((j : Int) + 1) m ss s2)) (st.2 ++ [(m : Int) + 1]) (NM (curT is bs (st.1 ++ tlQ ((j : Int) + 1) m ss s2)) ((j : Int) + 1) (st.1 ++ tlQ ((j : Int) + 1) m ss s2)) [(bw, 70, #[.bool true, .slice (some ⟨gs, 0, none⟩) ss.length sc, .string btx]), (xb, 65, #[.int .i64 2, .int .i64 lj, .slice (some ⟨gp, 0, none⟩) 2 cp])])) := ⟨dw, v8, s + 1, rfl, rfl, by omega, by simp, HREL.out⟩
                    go_wp2
                    go_roundw
                    case rel => first | exact ⟨dw, v8, s + 1, rfl, rfl, by omega, by go_num, HREL.out⟩ | ((repeat apply Exists.intro); exact ⟨HREL2.out, rfl⟩)
                    case measure => simp [intOf]; omega
end Go.Proofs.YtbebgnknjoclkaaGreat
/- Mending the rest, as a plain function. No Go function is spoken of. -/
namespace Go.Proofs.YtbebgnknjoclkaaGreat
open Go.RowKit Kit
def lnkV (is : List Ino) (bs : List Blk) (j : Nat) : Int := if j = 0 then 1 else (linksN is bs ((j : Int) + 1) : Int)
def restI (is : List Ino) (bs : List Blk) (j : Nat) : Ino := if (reachL is bs).contains ((j : Int) + 1) = true then ((is.getD j (0, 0, [])).1, lnkV is bs j, (is.getD j (0, 0, [])).2.2) else (0, 0, [0, 0])
def restL (is : List Ino) (bs : List Blk) : List Ino := (List.range 8).map (restI is bs)
/-- What is done of it. -/
def restQ (is : List Ino) (bs : List Blk) (q : Nat) : List Ino := (restL is bs).take q ++ is.drop q
theorem restL_len (is : List Ino) (bs : List Blk) : (restL is bs).length = 8 := by simp [restL]
theorem restQ_len {is : List Ino} (bs : List Blk) (h : is.length = 8) {q : Nat} (hq : q ≤ 8) : (restQ is bs q).length = 8 := by
  unfold restQ
  rw [List.length_append, List.length_take, List.length_drop, restL_len, h]
  omega
theorem restQ_zero (is : List Ino) (bs : List Blk) : restQ is bs 0 = is := by simp [restQ]
theorem restQ_all {is : List Ino} (bs : List Blk) (h : is.length = 8) : restQ is bs 8 = restL is bs := by
  unfold restQ
  rw [List.drop_of_length_le (by omega), List.append_nil, List.take_of_length_le (by rw [restL_len]; exact Nat.le_refl _)]
theorem restQ_lo {is : List Ino} (bs : List Blk) (_ : is.length = 8) {q j : Nat} (hq : q ≤ 8) (hj : j < q) (hx : j < (restQ is bs q).length) : (restQ is bs q)[j] = restI is bs j := by
  have e : (restQ is bs q)[j]? = some (restI is bs j) := by
    unfold restQ
    rw [List.getElem?_append_left (by rw [List.length_take, restL_len]; omega), List.getElem?_take_of_lt hj]
    unfold restL
    rw [List.getElem?_map, List.getElem?_range (by omega)]
    rfl
  rw [List.getElem?_eq_getElem hx] at e
  exact Option.some.inj e
theorem restQ_hi {is : List Ino} (bs : List Blk) (_ : is.length = 8) {q j : Nat} (hq : q ≤ 8) (hj : q ≤ j) (hx : j < (restQ is bs q).length) (hi : j < is.length) : (restQ is bs q)[j] = is[j] := by
  have e : (restQ is bs q)[j]? = some is[j] := by
    unfold restQ
    rw [List.getElem?_append_right (by rw [List.length_take, restL_len]; omega), List.getElem?_drop, List.length_take, restL_len, show q + (j - min q 8) = j by omega, List.getElem?_eq_getElem hi]
  rw [List.getElem?_eq_getElem hx] at e
  exact Option.some.inj e
theorem restQ_set {is : List Ino} (bs : List Blk) (h : is.length = 8) {q : Nat} (hq : q < 8) : (restQ is bs q).set q (restI is bs q) = restQ is bs (q + 1) := by
  have l1 := restQ_len bs h (q := q) (by omega)
  have l2 := restQ_len bs h (q := q + 1) (by omega)
  refine List.ext_getElem (by rw [List.length_set]; omega) fun j h1 h2 => ?_
  rw [List.length_set] at h1
  by_cases e : j = q
  · subst e
    rw [List.getElem_set_self, restQ_lo bs h (by omega) (by omega)]
  · rw [List.getElem_set_ne (fun h => e h.symm)]
    by_cases hlt : j < q
    · rw [restQ_lo bs h (by omega) hlt, restQ_lo bs h (by omega) (by omega)]
    · rw [restQ_hi bs h (by omega) (by omega) _ (by omega), restQ_hi bs h (by omega) (by omega) _ (by omega)]
/-- The same is reached. -/
structure SR (is cs : List Ino) (bs : List Blk) : Prop where
  k : ∀ i, Rch (edge is bs) i → kindAt cs i = kindAt is i ∧ ptrsAt cs i = ptrsAt is i
  z : ∀ i, ¬ kindAt cs i = 0 → kindAt cs i = kindAt is i
theorem mem_reachL {is : List Ino} {bs : List Blk} (h : RD is bs) {i : Int} : i ∈ reachL is bs ↔ Rch (edge is bs) i := mem_rchL (fun i k => edge_iff is bs i k) (edge_in h)
theorem SR.named {is cs : List Ino} {bs : List Blk} (h : SR is cs bs) {i : Int} (hi : Rch (edge is bs) i) : named cs bs i = named is bs i := by
  unfold Go.Proofs.YtbebgnknjoclkaaGreat.named
  rw [(h.k i hi).1, (h.k i hi).2]
theorem SR.reach {is cs : List Ino} {bs : List Blk} (h : SR is cs bs) (j : Int) : Rch (edge cs bs) j ↔ Rch (edge is bs) j := by
  constructor
  · intro hj
    refine hj _ (Rch.root _) fun i k hi e => ?_
    obtain ⟨s, hs, rfl, hk⟩ := e
    rw [h.named hi] at hs
    exact hi.step ⟨s, hs, rfl, by rw [← h.z _ hk]; exact hk⟩
  · intro hj
    have : Rch (edge cs bs) j ∧ Rch (edge is bs) j := hj (fun x => Rch (edge cs bs) x ∧ Rch (edge is bs) x) ⟨Rch.root _, Rch.root _⟩ fun i k hi e => by
      have hk := hi.2.step e
      obtain ⟨s, hs, rfl, hz⟩ := e
      exact ⟨hi.1.step ⟨s, by rw [h.named hi.2]; exact hs, rfl, by rw [(h.k _ hk).1]; exact hz⟩, hk⟩
    exact this.1
theorem SR.reachL {is cs : List Ino} {bs : List Blk} (h : SR is cs bs) (h1 : RD is bs) (h2 : RD cs bs) : reachL cs bs = reachL is bs := by
  unfold Go.Proofs.YtbebgnknjoclkaaGreat.reachL rchL
  refine List.filter_congr fun j hj => ?_
  have e1 := mem_reachL h1 (i := j)
  have e2 := mem_reachL h2 (i := j)
  unfold Go.Proofs.YtbebgnknjoclkaaGreat.reachL rchL at e1 e2
  rw [List.mem_filter] at e1 e2
  have e3 := h.reach j
  rw [Bool.eq_iff_iff]
  constructor
  · intro hp; exact (e1.2 (e3.1 (e2.1 ⟨hj, hp⟩))).2
  · intro hp; exact (e2.2 (e3.2 (e1.1 ⟨hj, hp⟩))).2
theorem flatMap_congr' {α β : Type} {f g : α → List β} : ∀ (l : List α), (∀ x ∈ l, f x = g x) → l.flatMap f = l.flatMap g
  | [], _ => rfl
  | x :: r, h => by rw [List.flatMap_cons, List.flatMap_cons, h x (by simp), flatMap_congr' r fun y hy => h y (by simp [hy])]
theorem SR.links {is cs : List Ino} {bs : List Blk} (h : SR is cs bs) (h1 : RD is bs) (h2 : RD cs bs) (i : Int) : linksN cs bs i = linksN is bs i := by
  unfold linksN slotsR
  rw [h.reachL h1 h2, flatMap_congr' _ fun x hx => h.named ((mem_reachL h1).1 hx)]
theorem SR.had {is cs : List Ino} {bs : List Blk} (h : SR is cs bs) (h1 : RD is bs) (h2 : RD cs bs) : hadL cs bs = hadL is bs := by
  unfold hadL ptrL
  rw [h.reachL h1 h2, flatMap_congr' (f := ptrI cs) (g := ptrI is) _ fun x hx => by unfold ptrI; rw [(h.k x ((mem_reachL h1).1 hx)).2]]
theorem SR.fB {is cs : List Ino} {bs : List Blk} (h : SR is cs bs) (h1 : RD is bs) (h2 : RD cs bs) : fB cs bs = fB is bs := by
  unfold Go.Proofs.YtbebgnknjoclkaaGreat.fB
  rw [h.had h1 h2]
theorem SR.fI {is cs : List Ino} {bs : List Blk} (h : SR is cs bs) (h1 : RD is bs) (h2 : RD cs bs) : fI cs bs = fI is bs := by
  unfold Go.Proofs.YtbebgnknjoclkaaGreat.fI
  rw [h.reachL h1 h2]
theorem restQ_sr {is : List Ino} {bs : List Blk} (h : RD is bs) {q : Nat} (hq : q ≤ 8) : SR is (restQ is bs q) bs := by
  have hl := restQ_len bs h.hi hq
  have key : ∀ j : Nat, (hj : j < 8) → (kindAt (restQ is bs q) ((j : Int) + 1) = kindAt is ((j : Int) + 1) ∧ ptrsAt (restQ is bs q) ((j : Int) + 1) = ptrsAt is ((j : Int) + 1)) ∨ (kindAt (restQ is bs q) ((j : Int) + 1) = 0 ∧ ¬ Rch (edge is bs) ((j : Int) + 1)) := fun j hj => by
    rw [(kindAt_in (is := restQ is bs q) (by omega)).1, (kindAt_in (is := restQ is bs q) (by omega)).2, (kindAt_in (is := is) (by rw [h.hi]; exact hj)).1, (kindAt_in (is := is) (by rw [h.hi]; exact hj)).2]
    by_cases hlt : j < q
    · rw [restQ_lo bs h.hi hq hlt]
      unfold restI
      by_cases hr : (reachL is bs).contains ((j : Int) + 1) = true
      · rw [if_pos hr, getD_in (by rw [h.hi]; exact hj)]
        exact .inl ⟨rfl, rfl⟩
      · rw [if_neg hr]
        exact .inr ⟨rfl, fun e => hr (List.contains_iff_mem.2 ((mem_reachL h).2 e))⟩
    · rw [restQ_hi bs h.hi hq (by omega) _ (by rw [h.hi]; exact hj)]
      exact .inl ⟨rfl, rfl⟩
  have out : ∀ i : Int, ¬ (1 ≤ i ∧ i ≤ 8) → kindAt (restQ is bs q) i = kindAt is i ∧ ptrsAt (restQ is bs q) i = ptrsAt is i := fun i hi => by
    have e1 : inB i 1 (restQ is bs q).length = false := by rw [hl]; exact decide_eq_false hi
    have e2 : inB i 1 is.length = false := by rw [h.hi]; exact decide_eq_false hi
    unfold kindAt ptrsAt
    rw [e1, e2]
    exact ⟨rfl, rfl⟩
  refine ⟨fun i hi => ?_, fun i hi => ?_⟩
  · by_cases hr : 1 ≤ i ∧ i ≤ 8
    · obtain ⟨j, rfl⟩ : ∃ j : Nat, i = (j : Int) + 1 := ⟨(i - 1).toNat, by omega⟩
      rcases key j (by omega) with e | e
      · exact e
      · exact absurd hi e.2
    · exact out i hr
  · by_cases hr : 1 ≤ i ∧ i ≤ 8
    · obtain ⟨j, rfl⟩ : ∃ j : Nat, i = (j : Int) + 1 := ⟨(i - 1).toNat, by omega⟩
      rcases key j (by omega) with e | e
      · exact e.1
      · exact absurd e.1 hi
    · exact (out i hr).1
theorem restI_form {xs ys : List Bool} {is : List Ino} {bs : List Blk} (h : RX xs ys is bs) {j : Nat} (hj : j < 8) : ((restI is bs j).1 = 0 ∨ (restI is bs j).1 = 1 ∨ (restI is bs j).1 = 2) ∧ (restI is bs j).2.2.length = 2 ∧ ∀ p ∈ (restI is bs j).2.2, 0 ≤ p ∧ p ≤ 16 := by
  have hm : is.getD j (0, 0, []) ∈ is := by rw [getD_in (by rw [h.r.hi]; exact hj)]; exact List.getElem_mem _
  unfold restI
  split
  · have h1 := h.r.kd _ hm
    have h2 := h.r.two _ hm
    have h3 := h.pr _ hm
    exact ⟨h1, h2, h3⟩
  · refine ⟨.inl rfl, rfl, fun p hp => ?_⟩
    simp only [List.mem_cons, List.not_mem_nil, or_false, or_self] at hp
    omega
theorem restQ_rx {xs ys : List Bool} {is : List Ino} {bs : List Blk} (h : RX xs ys is bs) {q : Nat} (hq : q ≤ 8) : RX xs ys (restQ is bs q) bs := by
  have hl := restQ_len bs h.r.hi hq
  have key : ∀ x ∈ restQ is bs q, (x.1 = 0 ∨ x.1 = 1 ∨ x.1 = 2) ∧ x.2.2.length = 2 ∧ ∀ p ∈ x.2.2, 0 ≤ p ∧ p ≤ 16 := fun x hx => by
    obtain ⟨j, hj, rfl⟩ := List.getElem_of_mem hx
    by_cases hlt : j < q
    · rw [restQ_lo bs h.r.hi hq hlt]
      exact restI_form h (by omega)
    · rw [restQ_hi bs h.r.hi hq (by omega) hj (by rw [h.r.hi]; omega)]
      have hm := List.getElem_mem (l := is) (n := j) (by rw [h.r.hi]; omega)
      exact ⟨h.r.kd _ hm, h.r.two _ hm, h.pr _ hm⟩
  exact ⟨⟨hl, h.r.hb, fun x hx => (key x hx).1, fun x hx => (key x hx).2.1, h.r.four, h.r.text, h.r.nm, h.r.tx⟩, h.sr, fun x hx => (key x hx).2.2, h.bx, h.y8⟩
end Go.Proofs.YtbebgnknjoclkaaGreat
/- What is there while the specification mends the rest. No Go function is spoken of. -/
namespace Go.Proofs.YtbebgnknjoclkaaGreat.Kit
open Go.RowKit
theorem DO.setY {w : World} {S : Nat → Prop} {u v iv bv : Value} {xs ys : List Bool} {is : List Ino} {bs : List Blk} (h : DO w S u v iv bv xs ys is bs) {g n c : Nat} (hv : v = .slice (some ⟨g, 0, none⟩) n c) (k : Nat) (z : Bool) : DO (w.setCell ⟨g, k, none⟩ (.bool z)) S u v iv bv xs (ys.set k z) is bs ∧ S g := by
  obtain ⟨S1, S2, S3, ti, tb, h1, h2, h3, h4, h5, h6, h7⟩ := h
  have ho : ∀ i, i ≠ g → (w.setCell ⟨g, k, none⟩ (.bool z)).heap[i]? = w.heap[i]? := fun i hi => heap_setCell_other w ⟨g, k, none⟩ i _ (by simpa using hi)
  have hvg : v.ownBlock = some g := by rw [hv]; rfl
  have hg : S1 g := h2 g (.inr hvg)
  obtain ⟨a, cc, e, -⟩ := h1.b.form
  have hn : n = (fc ys).length := by rw [hv] at e; simp only [Value.slice.injEq] at e; exact e.2.1
  subst hn
  have hb : ROwns (w.setCell ⟨g, k, none⟩ (.bool z)) 0 4 v (fc (ys.set k z)) := by
    have e2 : fc (ys.set k z) = (fc ys).set k (.bool z) := by simp [fc, List.map_set]
    rw [e2, hv]
    exact ((hv ▸ h1.b : ROwns w 0 4 (.slice (some ⟨g, 0, none⟩) (fc ys).length c) (fc ys)).stored k (.bool z)).1
  exact ⟨⟨S1, S2, S3, ti, tb, ⟨h1.a.of_heap fun i hi => ho i (fun e => h1.ne i hi (by rw [e]; exact hvg)), hb, h1.ne⟩, h2, h3.of_heap fun i hi _ => ho i (fun e => (h5 g hg).1 (e ▸ hi)), h4.of_heap fun i hi _ => ho i (fun e => (h5 g hg).2 (e ▸ hi)), h5, h6, h7⟩, h7 g (.inl hg)⟩
theorem DO.setX {w : World} {S : Nat → Prop} {u v iv bv : Value} {xs ys : List Bool} {is : List Ino} {bs : List Blk} (h : DO w S u v iv bv xs ys is bs) {g n c : Nat} (hv : u = .slice (some ⟨g, 0, none⟩) n c) (k : Nat) (z : Bool) : DO (w.setCell ⟨g, k, none⟩ (.bool z)) S u v iv bv (xs.set k z) ys is bs ∧ S g := by
  obtain ⟨S1, S2, S3, ti, tb, h1, h2, h3, h4, h5, h6, h7⟩ := h
  have ho : ∀ i, i ≠ g → (w.setCell ⟨g, k, none⟩ (.bool z)).heap[i]? = w.heap[i]? := fun i hi => heap_setCell_other w ⟨g, k, none⟩ i _ (by simpa using hi)
  have hvg : u.ownBlock = some g := by rw [hv]; rfl
  have hg : S1 g := h2 g (.inl hvg)
  obtain ⟨a, cc, e, -⟩ := h1.a.form
  have hn : n = (fc xs).length := by rw [hv] at e; simp only [Value.slice.injEq] at e; exact e.2.1
  subst hn
  have hb : ROwns (w.setCell ⟨g, k, none⟩ (.bool z)) 0 4 u (fc (xs.set k z)) := by
    have e2 : fc (xs.set k z) = (fc xs).set k (.bool z) := by simp [fc, List.map_set]
    rw [e2, hv]
    exact ((hv ▸ h1.a : ROwns w 0 4 (.slice (some ⟨g, 0, none⟩) (fc xs).length c) (fc xs)).stored k (.bool z)).1
  exact ⟨⟨S1, S2, S3, ti, tb, ⟨hb, h1.b.of_heap fun i hi => ho i (fun e => h1.ne g hvg (by rw [← e]; exact hi)), h1.ne⟩, h2, h3.of_heap fun i hi _ => ho i (fun e => (h5 g hg).1 (e ▸ hi)), h4.of_heap fun i hi _ => ho i (fun e => (h5 g hg).2 (e ▸ hi)), h5, h6, h7⟩, h7 g (.inl hg)⟩
end Go.Proofs.YtbebgnknjoclkaaGreat.Kit
namespace Go.Proofs.YtbebgnknjoclkaaGreat
open Go.RowKit Kit
/-- Flags, of which the first q are others. -/
def bQ (f ys : List Bool) (q : Nat) : List Bool := f.take q ++ ys.drop q
theorem bQ_zero (f ys : List Bool) : bQ f ys 0 = ys := by simp [bQ]
theorem bQ_len {f ys : List Bool} (h : f.length = ys.length) (q : Nat) : (bQ f ys q).length = ys.length := by
  unfold bQ
  rw [List.length_append, List.length_take, List.length_drop]
  omega
theorem bQ_all {f ys : List Bool} (h : f.length = ys.length) {q : Nat} (hq : f.length ≤ q) : bQ f ys q = f := by
  unfold bQ
  rw [List.take_of_length_le hq, List.drop_of_length_le (by omega), List.append_nil]
theorem bQ_set {f ys : List Bool} (h : f.length = ys.length) {q : Nat} (hq : q < f.length) : (bQ f ys q).set q f[q] = bQ f ys (q + 1) := by
  refine List.ext_getElem? fun j => ?_
  unfold bQ
  rw [List.getElem?_set]
  by_cases e : q = j
  · subst e
    rw [if_pos rfl, if_pos (by rw [List.length_append, List.length_take, List.length_drop]; omega), List.getElem?_append_left (by rw [List.length_take]; omega), List.getElem?_take_of_lt (by omega), List.getElem?_eq_getElem hq]
  · rw [if_neg e]
    by_cases hlt : j < q
    · rw [List.getElem?_append_left (by rw [List.length_take]; omega), List.getElem?_append_left (by rw [List.length_take]; omega), List.getElem?_take_of_lt hlt, List.getElem?_take_of_lt (by omega)]
    · rw [List.getElem?_append_right (by rw [List.length_take]; omega), List.getElem?_append_right (by rw [List.length_take]; omega), List.getElem?_drop, List.getElem?_drop, List.length_take, List.length_take]
      congr 1
      omega
/-- The answer under way, and a list. -/
structure RS (w wr : World) (b gr : Nat) (A : Array Value) (u v iv bv : Value) (xs ys : List Bool) (is : List Ino) (bs : List Blk) (rv : Value) (RL : List Int) : Prop where
  d : DO wr (fun k => (w.heap.size + 2 ≤ k ∧ k ≠ b) ∧ k ≠ gr) u v iv bv xs ys is bs
  o : AtC wr b 34 #[u, v, iv, bv]
  r : AtC wr (w.heap.size + 1) 34 noD
  a : AtC wr w.heap.size 34 A
  c : Below w.heap.size w wr
  l : ROwns wr 0 3 rv (ic RL)
  lg : ∀ k, rv.ownBlock = some k → k = gr
  hb : w.heap.size + 2 ≤ b
  gr_ : w.heap.size + 2 ≤ gr ∧ gr ≠ b
  gn : gr < wr.heap.size
namespace RS
variable {w wr wr' : World} {b gr : Nat} {A : Array Value} {u v iv bv : Value} {xs ys xs' ys' : List Bool} {is is' : List Ino} {bs : List Blk} {rv : Value} {RL : List Int}
theorem below (h : RS w wr b gr A u v iv bv xs ys is bs rv RL) (hb : Below wr.heap.size wr wr') : RS w wr' b gr A u v iv bv xs ys is bs rv RL :=
  ⟨h.d.below hb (Nat.le_refl _), h.o.over hb, h.r.over hb, h.a.over hb, h.c.trans (hb.mono h.c.size), h.l.below hb (Nat.le_refl _), h.lg, h.hb, h.gr_, Nat.lt_of_lt_of_le h.gn hb.size⟩
theorem turn (h : RS w wr b gr A u v iv bv xs ys is bs rv RL) (g : Nat) (hg : (w.heap.size + 2 ≤ g ∧ g ≠ b) ∧ g ≠ gr) (ho : ∀ k, k ≠ g → wr'.heap[k]? = wr.heap[k]?) (hs : wr.heap.size ≤ wr'.heap.size) (hc : Below w.heap.size w wr') (hd : DO wr' (fun k => (w.heap.size + 2 ≤ k ∧ k ≠ b) ∧ k ≠ gr) u v iv bv xs' ys' is' bs) : RS w wr' b gr A u v iv bv xs' ys' is' bs rv RL :=
  ⟨hd, (ho b (fun e => hg.1.2 e.symm)).trans h.o, (ho _ (by omega)).trans h.r, (ho _ (by omega)).trans h.a, hc, h.l.of_heap fun k hk => ho k (fun e => hg.2 (by rw [← e]; exact h.lg k hk)), h.lg, h.hb, h.gr_, Nat.lt_of_lt_of_le h.gn hs⟩
theorem setY (h : RS w wr b gr A u v iv bv xs ys is bs rv RL) {g n c : Nat} (hv : v = .slice (some ⟨g, 0, none⟩) n c) (k : Nat) (z : Bool) : RS w (wr.setCell ⟨g, k, none⟩ (.bool z)) b gr A u v iv bv xs (ys.set k z) is bs rv RL := by
  obtain ⟨h1, h2⟩ := h.d.setY hv k z
  exact h.turn g h2 (fun i hi => heap_setCell_other wr ⟨g, k, none⟩ i _ (by simpa using hi)) (by simp) (h.c.setCell (p := ⟨g, k, none⟩) (by show _ ≤ g; omega) _) h1
theorem setX (h : RS w wr b gr A u v iv bv xs ys is bs rv RL) {g n c : Nat} (hv : u = .slice (some ⟨g, 0, none⟩) n c) (k : Nat) (z : Bool) : RS w (wr.setCell ⟨g, k, none⟩ (.bool z)) b gr A u v iv bv (xs.set k z) ys is bs rv RL := by
  obtain ⟨h1, h2⟩ := h.d.setX hv k z
  exact h.turn g h2 (fun i hi => heap_setCell_other wr ⟨g, k, none⟩ i _ (by simpa using hi)) (by simp) (h.c.setCell (p := ⟨g, k, none⟩) (by show _ ≤ g; omega) _) h1
theorem lnk (h : RS w wr b gr A u v iv bv xs ys is bs rv RL) {g n c : Nat} (hv : iv = .slice (some ⟨g, 0, none⟩) n c) (j : Nat) (hj : j < is.length) (z : Int) : RS w (wr.setCell ⟨g, j * 3 + 1, none⟩ (.int .i64 z)) b gr A u v iv bv xs ys (is.set j (is[j].1, z, is[j].2.2)) bs rv RL := by
  obtain ⟨ti, tb, hL⟩ := h.d.dl
  obtain ⟨-, -, -, -, hS⟩ := h.d.atI hv j hj
  exact h.turn g hS (fun i hi => heap_setCell_other wr ⟨g, j * 3 + 1, none⟩ i _ (by simpa using hi)) (by simp) (h.c.setCell (p := ⟨g, j * 3 + 1, none⟩) (by show _ ≤ g; omega) _) (hL.setLinks j hj hv z).1
theorem put (h : RS w wr b gr A u v iv bv xs ys is bs rv RL) {g n c : Nat} (hv : iv = .slice (some ⟨g, 0, none⟩) n c) (j : Nat) (hj : j < is.length) {w1 : World} {nv : Value} (hb : Below wr.heap.size wr w1) (ho : ROwns w1 wr.heap.size 3 nv (ic [0, 0])) : RS w (((w1.setCell ⟨g, j * 3, none⟩ (.int .i64 0)).setCell ⟨g, j * 3 + 1, none⟩ (.int .i64 0)).setCell ⟨g, j * 3 + 2, none⟩ nv) b gr A u v iv bv xs ys (is.set j (0, 0, [0, 0])) bs rv RL := by
  obtain ⟨-, -, -, -, hS⟩ := h.d.atI hv j hj
  have h1 := h.below hb
  have hbw := h.o.lt
  have hgw : ∀ k, rv.ownBlock = some k → k < wr.heap.size := fun k hk => (h.l.lt k hk).2
  have hcs := h.c.size
  have hr := h.r.lt
  refine h1.turn g hS (fun i hi => ((heap_setCell_other _ ⟨g, j * 3 + 2, none⟩ i _ (by simpa using hi)).trans (heap_setCell_other _ ⟨g, j * 3 + 1, none⟩ i _ (by simpa using hi))).trans (heap_setCell_other _ ⟨g, j * 3, none⟩ i _ (by simpa using hi))) (by simp) (((h1.c.setCell (p := ⟨g, j * 3, none⟩) (by show _ ≤ g; omega) _).setCell (p := ⟨g, j * 3 + 1, none⟩) (by show _ ≤ g; omega) _).setCell (p := ⟨g, j * 3 + 2, none⟩) (by show _ ≤ g; omega) _) ?_
  have hg := h.gn
  exact (h.d.putI hv j hj (.int .i64 0, .int .i64 0, nv) (0, 0, [0, 0]) hb ⟨rfl, rfl, ho.base_le (Nat.zero_le _)⟩ (fun k hk => (ho.lt k hk).1)).mono fun k hk => hk.elim id (fun e => ⟨⟨by omega, by omega⟩, by omega⟩)
end RS
end Go.Proofs.YtbebgnknjoclkaaGreat
/- Of the specification: LinksOf by its contract. -/
namespace Go.Proofs.YtbebgnknjoclkaaGreat
open Go.RowKit Kit
set_option maxRecDepth 100000 in
set_option maxHeartbeats 3200000 in
theorem specLinks_any (x : Int) (dx dy iv bv : Value) (xs ys : List Bool) (is : List Ino) (bs : List Blk) (w : World) (h : DR w dx dy iv bv xs ys is bs) (hX : RX xs ys is bs) :
    Calls Tryz.prog 39 #[.agg #[dx, dy, iv, bv], .int .i64 x] w fun e w' => e = .returned (.int .i64 (linksN is bs x)) ∧ Below w.heap.size w w' := by
  have hR := hX.r
  obtain ⟨a1, c1, a2, c2, a3, c3, a4, c4, rfl, rfl, rfl, rfl⟩ := h.form
  have HB0 : Hid (Below w.heap.size w (w.alloc (.cells #[.slice a1 xs.length c1, .slice a2 ys.length c2, .slice a3 is.length c3, .slice a4 bs.length c4] 34))) := (Below.refl _ w).alloc (Nat.le_refl _) _
  have HA0 := hide (AtC.new w 34 #[.slice a1 xs.length c1, .slice a2 ys.length c2, .slice a3 is.length c3, .slice a4 bs.length c4])
  have CR := hide (specReach_any (.slice a1 xs.length c1) (.slice a2 ys.length c2) (.slice a3 is.length c3) (.slice a4 bs.length c4) xs ys is bs (w.alloc (.cells #[.slice a1 xs.length c1, .slice a2 ys.length c2, .slice a3 is.length c3, .slice a4 bs.length c4] 34)) (h.alloc _) hR)
  have CN := hide (fun (x : Int) (W : World) (hb : Below w.heap.size w W) => slots_any x (.slice a1 xs.length c1) (.slice a2 ys.length c2) (.slice a3 is.length c3) (.slice a4 bs.length c4) xs ys is bs W (h.below hb (Nat.le_refl _)) hR)
  have HL8 : Hid (∀ x, (named is bs x).length ≤ 8) := hR.named8
  have HLT : Hid (∀ q, ((((reachL is bs).take q).flatMap (named is bs)).countP (fun s => decide (s.2 = x))) ≤ 64) := fun q => by
    have h1 := flatN_len hR ((reachL is bs).take q)
    have h2 := reachL_len is bs
    rw [List.length_take] at h1
    exact Nat.le_trans List.countP_le_length (by omega)
  have HR8 := hide (reachL_len is bs)
  have HFT := hide (fun q hq => flat_take (reachL is bs) (named is bs) q hq)
  obtain ⟨RL, hRL⟩ : ∃ l, reachL is bs = l := ⟨_, rfl⟩
  have HRES : Hid (slotsR is bs = RL.flatMap (named is bs)) := by show slotsR is bs = _; unfold slotsR; rw [hRL]
  have HFIN : Hid ((linksN is bs x) = (RL.flatMap (named is bs)).countP (fun s => decide (s.2 = x))) := by
    show _ = _
    rw [← HRES.out]
    rfl
  rw [HFIN.out]
  rw [hRL] at CR HLT HR8 HFT
  clear h hR hX hRL HRES HFIN
  go_enter Tryz.func39, Tryz.ntmps39
  go_wp2_with fail
  refine CR.out.mono ?_
  rintro e w1 ⟨rv, rfl, R1, B1⟩
  have HB1 := hide (HB0.out.trans (B1.mono HB0.out.size))
  have HA1 := hide (HA0.out.over B1)
  obtain ⟨ra, rc, rfl, hcr⟩ := R1.rints
  have HCR := hide hcr
  have r8 : RL.length ≤ 8 := HR8.out
  clear R1 B1 CR HB0 HA0 hcr
  go_wp2_with fail
  go_loopw [5, 7] (fun nv kv wr => ∃ (q : Nat), q ≤ RL.length ∧ nv = .int .i64 ((((RL.take q).flatMap (named is bs)).countP (fun s => decide (s.2 = x)) : Nat) : Int) ∧ kv = .int .i64 q ∧ Hid (Below w1.heap.size w1 wr)) (fun _ kv _ => RL.length - (intOf kv).toNat)
  case atStart => exact ⟨0, Nat.zero_le _, by simp, rfl, Below.refl _ _⟩
  case round =>
    obtain ⟨q, hq, rfl, rfl, HQ⟩ := hrel
    obtain ⟨wo, hwo⟩ : ∃ wo, wo = wr := ⟨_, rfl⟩
    subst hwo
    have q0 : (0 : Int) ≤ (q : Int) := by omega
    by_cases hlt : q < RL.length
    rotate_left
    · have q1 : ¬ ((q : Int) < (RL.length : Int)) := by omega
      rw [List.take_of_length_le (by omega)]
      go_wp2
      go_ret
      exact ⟨rfl, HB1.out.trans (HQ.out.mono HB1.out.size)⟩
    have q1 : (q : Int) < (RL.length : Int) := by omega
    obtain ⟨gr, orr, rfl, hgr, kr⟩ := HCR.out q hlt
    have HF1 := hide (HFT.out q hlt)
    have hn64 := HLT.out (q + 1)
    obtain ⟨di, hdi⟩ : ∃ x, RL[q] = x := ⟨_, rfl⟩
    rw [hdi] at kr HF1
    rw [HF1.out, List.countP_append] at hn64
    obtain ⟨c0, hc0⟩ : ∃ c, ((RL.take q).flatMap (named is bs)).countP (fun s => decide (s.2 = x)) = c := ⟨_, rfl⟩
    have HC1 : Hid (((RL.take (q + 1)).flatMap (named is bs)).countP (fun s => decide (s.2 = x)) = c0 + (named is bs di).countP (fun s => decide (s.2 = x))) := by
      show _ = _
      rw [HF1.out, List.countP_append, hc0]
    rw [hc0] at hn64 ⊢
    have HW : Hid (∀ W, Below wo.heap.size wo W → Below w.heap.size w W ∧ AtC W w.heap.size 34 #[.slice a1 xs.length c1, .slice a2 ys.length c2, .slice a3 is.length c3, .slice a4 bs.length c4] ∧ W.cell? ⟨gr, orr + q, none⟩ = some (.int .i64 di) ∧ Below w1.heap.size w1 W) := fun W b => by
      have b1 := HQ.out.trans (b.mono HQ.out.size)
      exact ⟨HB1.out.trans (b1.mono HB1.out.size), HA1.out.over b1, (b1.cell (p := ⟨gr, orr + q, none⟩) hgr).trans kr, b1⟩
    clear hdi kr hc0 HF1
    go_upto_region 6 with fail
    go_cut [8] from 12 to 38 (fun sv wx => ∃ a c, sv = .slice a (named is bs di).length c ∧ RSl wx (.slice a (named is bs di).length c) (named is bs di) ∧ Below wo.heap.size wo wx)
    case first =>
      obtain ⟨-, A0, kr, -⟩ := HW.out wo.drew (Below.refl _ wo).drew
      have z0 : wo.drew.cell? ⟨w.heap.size, 0, none⟩ = some (.slice a1 xs.length c1) := A0.cell 0
      have z1 : wo.drew.cell? ⟨w.heap.size, 1, none⟩ = some (.slice a2 ys.length c2) := A0.cell 1
      have z2 : wo.drew.cell? ⟨w.heap.size, 2, none⟩ = some (.slice a3 is.length c3) := A0.cell 2
      have z3 : wo.drew.cell? ⟨w.heap.size, 3, none⟩ = some (.slice a4 bs.length c4) := A0.cell 3
      have CN1 := hide (CN.out di wo.drew (HW.out wo.drew (Below.refl _ wo).drew).1)
      clear A0
      go_region_with (go_at_call 71; refine CN1.out.mono ?_; rintro e w2 ⟨nv, rfl, S2, B2⟩; obtain ⟨na, nc, rfl, -⟩ := S2.form)
      all_goals (try go_wp2_with fail)
      all_goals (go_meet; exact ⟨_, _, rfl, S2.rsl, of_drew B2⟩)
    case rest =>
      obtain ⟨na, nc, rfl, hS2, hB2⟩ := hcut
      obtain ⟨-, -, -, hB3⟩ := HW.out _ hB2
      have HS2 := hide hS2
      have HB3 := hide hB3
      have HN8 := HL8.out di
      clear hS2 hB2 hB3 HW HQ
      obtain ⟨NS, hNS⟩ : ∃ X, named is bs di = X := ⟨_, rfl⟩
      rw [hNS] at HC1 HS2 HN8 hn64 ⊢
      clear hNS
      obtain ⟨wx, hwx⟩ : ∃ wx, wx = wc := ⟨_, rfl⟩
      subst hwx
      go_wp2_with fail
      go_loopw [5, 9] (fun nv kv wr => ∃ (t : Nat), t ≤ NS.length ∧ nv = .int .i64 (((c0 + (NS.take t).countP (fun s => decide (s.2 = x)) : Nat)) : Int) ∧ kv = .int .i64 t ∧ Hid (Below wx.heap.size wx wr)) (fun _ kv _ => NS.length - (intOf kv).toNat)
      case atStart => exact ⟨0, Nat.zero_le _, by simp, rfl, Below.refl _ _⟩
      case round =>
        obtain ⟨t, ht, rfl, rfl, HT⟩ := hrel
        have t0 : (0 : Int) ≤ (t : Int) := by omega
        by_cases htl : t < NS.length
        rotate_left
        · have t1 : ¬ ((t : Int) < (NS.length : Int)) := by omega
          have HE : Hid (((RL.take (q + 1)).flatMap (named is bs)).countP (fun s => decide (s.2 = x)) = c0 + (NS.take t).countP (fun s => decide (s.2 = x))) := by
            show _ = _
            rw [HC1.out, List.take_of_length_le (by omega)]
          go_wp2
          go_roundw
          case rel => exact ⟨q + 1, by omega, by rw [HE.out], by go_num, HB3.out.trans (HT.out.mono HB3.out.size)⟩
          case measure => simp [intOf]; omega
        have t1 : (t : Int) < (NS.length : Int) := by omega
        obtain ⟨ca, cc, ec, -, hcs⟩ := HS2.out
        simp only [Value.slice.injEq, true_and] at ec
        obtain ⟨rfl, rfl⟩ := ec
        obtain ⟨gs, os, rfl, hgs, ks0, ks1⟩ := hcs t htl
        have HCT := hide (countP_take NS (fun s => decide (s.2 = x)) t htl)
        have hle := countP_take_le NS (fun s => decide (s.2 = x)) t
        obtain ⟨⟨sn, si⟩, hsn⟩ : ∃ X, NS[t] = X := ⟨_, rfl⟩
        rw [hsn] at ks0 ks1 HCT
        simp only at ks0 ks1 HCT
        replace ks1 := (HT.out.cell (p := ⟨gs, os + t * 2 + 1, none⟩) hgs).trans ks1
        obtain ⟨c1', hc1⟩ : ∃ c, (NS.take t).countP (fun s => decide (s.2 = x)) = c := ⟨_, rfl⟩
        rw [hc1] at HCT hle ⊢
        have hcle : c0 + c1' ≤ 1000 := by omega
        clear hsn hc1 hcs ks0
        by_cases hx : si = x
        · subst hx
          have HE : Hid ((NS.take (t + 1)).countP (fun s => decide (s.2 = si)) = c1' + 1) := hide (by have := HCT.out; simpa using this)
          go_wp2
          go_roundw
          case rel => exact ⟨t + 1, by omega, by rw [HE.out]; go_num, by go_num, HT.out⟩
          case measure => simp [intOf]; omega
        · have HE : Hid ((NS.take (t + 1)).countP (fun s => decide (s.2 = x)) = c1') := hide (by have := HCT.out; simpa [hx] using this)
          go_wp2
          go_roundw
          case rel => exact ⟨t + 1, by omega, by rw [HE.out], by go_num, HT.out⟩
          case measure => simp [intOf]; omega


end Go.Proofs.YtbebgnknjoclkaaGreat
