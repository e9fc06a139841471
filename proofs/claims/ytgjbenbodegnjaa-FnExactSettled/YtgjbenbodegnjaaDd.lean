
/- What leans: its eleven cells, how lists of it lie and are read; a memory's parts. No Go function is spoken of. -/
import Derived.Test.YtgjbenbodegnjaaGn
import Derived.Test.YtgjbenbodegnjaaTs
import Derived.Test.YtgjbenbodegnjaaMk
namespace Go.Proofs.Ytgjbenbodegnjaa.Kit
open Go.RowKit
/-- One that leans. -/
structure Dp where
  id : Int
  kd : Int
  io : Int
  pt : Int
  bk : Int
  sl : Int
  nm : ByteArray
  bt : Bool
  ot : Bool
  af : Int
  bl : List Int
/-- Its cells, with the list's value. -/
def Dp.row (d : Dp) (p : Value) : Row := [.int .i64 d.id, .int .i64 d.kd, .int .i64 d.io, .int .i64 d.pt, .int .i64 d.bk, .int .i64 d.sl, .string d.nm, .bool d.bt, .bool d.ot, .int .i64 d.af, p]
/-- How such structs lie. -/
def KDep : Kn Dp where
  n := 11
  T := 65
  p := fun t => t.getD 10 (.slice none 0 0)
  O := fun w t x => ∃ p, t = x.row p ∧ ROwns w 0 3 p (ic x.bl)
  R := fun w t x => ∃ p, t = x.row p ∧ RInts w p x.bl
  len := fun h => by obtain ⟨p, rfl, -⟩ := h; rfl
  heap := fun h hh => by obtain ⟨p, rfl, h⟩ := h; exact ⟨p, rfl, h.of_heap hh⟩
  lt := fun h k hk => by obtain ⟨p, rfl, h⟩ := h; exact (h.lt k hk).2
  rd := fun h => by obtain ⟨p, rfl, h⟩ := h; exact ⟨p, rfl, h.rints⟩
  bel := fun h hb hB => by obtain ⟨p, rfl, h⟩ := h; exact ⟨p, rfl, h.below hb hB⟩
/-- The cells of one that leans, from o on. -/
def DCells (w : World) (g o : Nat) (d : Dp) (p : Value) : Prop := w.cell? ⟨g, o, none⟩ = some (.int .i64 d.id) ∧ w.cell? ⟨g, o + 1, none⟩ = some (.int .i64 d.kd) ∧ w.cell? ⟨g, o + 2, none⟩ = some (.int .i64 d.io) ∧ w.cell? ⟨g, o + 3, none⟩ = some (.int .i64 d.pt) ∧ w.cell? ⟨g, o + 4, none⟩ = some (.int .i64 d.bk) ∧ w.cell? ⟨g, o + 5, none⟩ = some (.int .i64 d.sl) ∧ w.cell? ⟨g, o + 6, none⟩ = some (.string d.nm) ∧ w.cell? ⟨g, o + 7, none⟩ = some (.bool d.bt) ∧ w.cell? ⟨g, o + 8, none⟩ = some (.bool d.ot) ∧ w.cell? ⟨g, o + 9, none⟩ = some (.int .i64 d.af) ∧ w.cell? ⟨g, o + 10, none⟩ = some (p)
theorem DCells.of {w : World} {g o : Nat} {d : Dp} {p : Value} (h : ∀ i, i < 11 → w.cell? ⟨g, o + i, none⟩ = (d.row p)[i]?) : DCells w g o d p :=
  ⟨h 0 (by decide), h 1 (by decide), h 2 (by decide), h 3 (by decide), h 4 (by decide), h 5 (by decide), h 6 (by decide), h 7 (by decide), h 8 (by decide), h 9 (by decide), h 10 (by decide)⟩
theorem DCells.below {w w' : World} {g o : Nat} {d : Dp} {p : Value} {B : Nat} (h : DCells w g o d p) (hb : Below B w w') (hg : g < B) : DCells w' g o d p := by
  obtain ⟨h0, h1, h2, h3, h4, h5, h6, h7, h8, h9, h10⟩ := h
  exact ⟨(hb.cell (p := ⟨g, o, none⟩) hg).trans h0, (hb.cell (p := ⟨g, o + 1, none⟩) hg).trans h1, (hb.cell (p := ⟨g, o + 2, none⟩) hg).trans h2, (hb.cell (p := ⟨g, o + 3, none⟩) hg).trans h3, (hb.cell (p := ⟨g, o + 4, none⟩) hg).trans h4, (hb.cell (p := ⟨g, o + 5, none⟩) hg).trans h5, (hb.cell (p := ⟨g, o + 6, none⟩) hg).trans h6, (hb.cell (p := ⟨g, o + 7, none⟩) hg).trans h7, (hb.cell (p := ⟨g, o + 8, none⟩) hg).trans h8, (hb.cell (p := ⟨g, o + 9, none⟩) hg).trans h9, (hb.cell (p := ⟨g, o + 10, none⟩) hg).trans h10⟩
theorem RN.dep {w : World} {v : Value} {xs : List Dp} (h : RN KDep w v xs) : ∃ a cap, v = .slice a xs.length cap ∧ xs.length ≤ cap ∧ ∀ (j : Nat) (h : j < xs.length), ∃ g off p, a = some ⟨g, off, none⟩ ∧ g < w.heap.size ∧ DCells w g (off + j * 11) xs[j] p ∧ RInts w p xs[j].bl := by
  obtain ⟨a, cap, e, hc, h⟩ := h
  refine ⟨a, cap, e, hc, fun j hj => ?_⟩
  obtain ⟨g, off, t, e1, hg, hc, p, rfl, hr⟩ := h j hj
  exact ⟨g, off, p, e1, hg, DCells.of fun i hi => hc i hi, hr⟩
theorem DO.bound {w : World} {S : Nat → Prop} {u v iv bv : Value} {xs ys : List Bool} {is : List Ino} {bs : List Blk} (h : DO w S u v iv bv xs ys is bs) : DO w (fun k => S k ∧ k < w.heap.size) u v iv bv xs ys is bs := by
  obtain ⟨T1, T2, T3, ti, tb, k1, k2, k3, k4, k5, k6, k7⟩ := h
  refine ⟨fun k => T1 k ∧ k < w.heap.size, fun k => T2 k ∧ k < w.heap.size, fun k => T3 k ∧ k < w.heap.size, ti, tb, k1, fun k hk => ⟨k2 k hk, hk.elim (fun e => (k1.a.lt k e).2) (fun e => (k1.b.lt k e).2)⟩, k3.bound, k4.bound, fun k hk => ⟨fun e => (k5 k hk.1).1 e.1, fun e => (k5 k hk.1).2 e.1⟩, fun k hk e => k6 k hk.1 e.1, fun k hk => ?_⟩
  rcases hk with hk | hk | hk
  · exact ⟨k7 k (.inl hk.1), hk.2⟩
  · exact ⟨k7 k (.inr (.inl hk.1)), hk.2⟩
  · exact ⟨k7 k (.inr (.inr hk.1)), hk.2⟩
/-- What a memory tells. -/
structure MD where
  xs : List Bool
  ys : List Bool
  is : List Ino
  bs : List Blk
  fs : List Bool
  ds : List Dp
  nx : Int
/-- The parts of a memory are read so. -/
structure MR (w : World) (u v iv bv dv pv : Value) (m : MD) : Prop where
  d : DR w u v iv bv m.xs m.ys m.is m.bs
  f : RFl w dv m.fs
  p : RN KDep w pv m.ds
namespace MR
variable {w w' : World} {u v iv bv dv pv : Value} {m : MD}
theorem below {B : Nat} (h : MR w u v iv bv dv pv m) (hb : Below B w w') (hB : w.heap.size ≤ B) : MR w' u v iv bv dv pv m := ⟨h.d.below hb hB, h.f.below hb hB, h.p.below hb hB⟩
theorem alloc (h : MR w u v iv bv dv pv m) (o : Obj) : MR (w.alloc o) u v iv bv dv pv m := h.below ((Below.refl _ w).alloc (Nat.le_refl _) o) (Nat.le_refl _)
theorem drew (h : MR w u v iv bv dv pv m) : MR w.drew u v iv bv dv pv m := h.below (Below.refl w.heap.size w).drew (Nat.le_refl _)
theorem form (h : MR w u v iv bv dv pv m) : ∃ a1 c1 a2 c2 a3 c3 a4 c4 a5 c5 a6 c6, u = .slice a1 m.xs.length c1 ∧ v = .slice a2 m.ys.length c2 ∧ iv = .slice a3 m.is.length c3 ∧ bv = .slice a4 m.bs.length c4 ∧ dv = .slice a5 m.fs.length c5 ∧ pv = .slice a6 m.ds.length c6 := by
  obtain ⟨a1, c1, a2, c2, a3, c3, a4, c4, e1, e2, e3, e4⟩ := h.d.form
  obtain ⟨a5, c5, e5⟩ := h.f.form
  obtain ⟨a6, c6, e6⟩ := h.p.form
  exact ⟨a1, c1, a2, c2, a3, c3, a4, c4, a5, c5, a6, c6, e1, e2, e3, e4, e5, e6⟩
end MR
/-- The parts of a memory are owned, each in blocks of its own, all of them of S. -/
def MO (w : World) (S : Nat → Prop) (u v iv bv dv pv : Value) (m : MD) : Prop :=
  ∃ (S1 S2 S3 : Nat → Prop) (ts : List Row), DO w S1 u v iv bv m.xs m.ys m.is m.bs ∧ ROwns w 0 4 dv (fc m.fs) ∧ (∀ k, dv.ownBlock = some k → S2 k) ∧ GN KDep w S3 pv ts m.ds ∧ (∀ k, S1 k → ¬ S2 k ∧ ¬ S3 k) ∧ (∀ k, S2 k → ¬ S3 k) ∧ ∀ k, S1 k ∨ S2 k ∨ S3 k → S k
namespace MO
variable {w w' : World} {S S' : Nat → Prop} {u v iv bv dv pv : Value} {m : MD}
theorem of_heap (h : MO w S u v iv bv dv pv m) (hh : ∀ k, S k → k < w.heap.size → w'.heap[k]? = w.heap[k]?) : MO w' S u v iv bv dv pv m := by
  obtain ⟨S1, S2, S3, ts, h1, h2, h3, h4, h5, h6, h7⟩ := h
  exact ⟨S1, S2, S3, ts, h1.of_heap fun k hs hk => hh k (h7 k (.inl hs)) hk, h2.of_heap fun k hk => hh k (h7 k (.inr (.inl (h3 k hk)))) (h2.lt k hk).2, h3, h4.of_heap fun k hs hk => hh k (h7 k (.inr (.inr hs))) hk, h5, h6, h7⟩
theorem below {B : Nat} (h : MO w S u v iv bv dv pv m) (hb : Below B w w') (hB : w.heap.size ≤ B) : MO w' S u v iv bv dv pv m := h.of_heap fun k _ hk => hb.block k (by omega)
theorem alloc (h : MO w S u v iv bv dv pv m) (o : Obj) : MO (w.alloc o) S u v iv bv dv pv m := h.below ((Below.refl _ w).alloc (Nat.le_refl _) o) (Nat.le_refl _)
theorem chg (h : MO w S u v iv bv dv pv m) (hc : Chg S' w w') (hd : ∀ k, S k → ¬ S' k) : MO w' S u v iv bv dv pv m := h.of_heap fun k hs hk => hc.block k hk (hd k hs)
theorem mono (h : MO w S u v iv bv dv pv m) (hs : ∀ k, S k → S' k) : MO w S' u v iv bv dv pv m := by
  obtain ⟨S1, S2, S3, ts, h1, h2, h3, h4, h5, h6, h7⟩ := h
  exact ⟨S1, S2, S3, ts, h1, h2, h3, h4, h5, h6, fun k hk => hs k (h7 k hk)⟩
theorem mr (h : MO w S u v iv bv dv pv m) : MR w u v iv bv dv pv m := by
  obtain ⟨S1, S2, S3, ts, h1, h2, h3, h4, -⟩ := h
  exact ⟨h1.dr, h2.rfl, h4.rn⟩
theorem bound (h : MO w S u v iv bv dv pv m) : MO w (fun k => S k ∧ k < w.heap.size) u v iv bv dv pv m := by
  obtain ⟨S1, S2, S3, ts, h1, h2, h3, h4, h5, h6, h7⟩ := h
  obtain ⟨T1, T2, T3, ti, tb, k1, k2, k3, k4, k5, k6, k7⟩ := h1
  refine ⟨fun k => S1 k ∧ k < w.heap.size, fun k => S2 k ∧ k < w.heap.size, fun k => S3 k ∧ k < w.heap.size, ts, ⟨fun k => T1 k ∧ k < w.heap.size, fun k => T2 k ∧ k < w.heap.size, fun k => T3 k ∧ k < w.heap.size, ti, tb, k1, fun k hk => ⟨k2 k hk, hk.elim (fun e => (k1.a.lt k e).2) (fun e => (k1.b.lt k e).2)⟩, k3.bound, k4.bound, fun k hk => ⟨fun e => (k5 k hk.1).1 e.1, fun e => (k5 k hk.1).2 e.1⟩, fun k hk e => k6 k hk.1 e.1, fun k hk => ?_⟩, h2, fun k hk => ⟨h3 k hk, (h2.lt k hk).2⟩, h4.bound, fun k hk => ⟨fun e => (h5 k hk.1).1 e.1, fun e => (h5 k hk.1).2 e.1⟩, fun k hk e => h6 k hk.1 e.1, fun k hk => ?_⟩
  · rcases hk with hk | hk | hk
    · exact ⟨k7 k (.inl hk.1), hk.2⟩
    · exact ⟨k7 k (.inr (.inl hk.1)), hk.2⟩
    · exact ⟨k7 k (.inr (.inr hk.1)), hk.2⟩
  · rcases hk with hk | hk | hk
    · exact ⟨h7 k (.inl hk.1), hk.2⟩
    · exact ⟨h7 k (.inr (.inl hk.1)), hk.2⟩
    · exact ⟨h7 k (.inr (.inr hk.1)), hk.2⟩
end MO
/-- Of no list is more than n told. -/
structure BigM (n : Nat) (m : MD) : Prop where
  d : Big n m.xs m.ys m.is m.bs
  f : m.fs.length ≤ n
  l : m.ds.length ≤ n
  b : ∀ (j : Nat) (h : j < m.ds.length), m.ds[j].bl.length ≤ n
  t : ∀ (j : Nat) (h : j < m.ds.length), m.ds[j].nm.size ≤ n
/-- Marks. -/
def szDp (x : Dp) : Nat := 10 + x.bl.length
def mkDp (k : Nat) (x : Dp) : Dp := ⟨(k : Int), ((k + 1 : Nat) : Int), ((k + 2 : Nat) : Int), ((k + 3 : Nat) : Int), ((k + 4 : Nat) : Int), ((k + 5 : Nat) : Int), mkT (k + 6), mk3 (k + 7), mk3 (k + 8), ((k + 9 : Nat) : Int), marksI (k + 10) x.bl.length⟩
end Go.Proofs.Ytgjbenbodegnjaa.Kit
