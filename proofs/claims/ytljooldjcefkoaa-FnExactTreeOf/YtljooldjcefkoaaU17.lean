/- Texts of the proof, bundled: Qs, LawT, Lt. -/
import Derived.Deep.RegionHeld3
import Derived.Test.YtljooldjcefkoaaU04
import Derived.Test.YtljooldjcefkoaaU16
/- laws.eqInodeS, laws.eqBlockS and laws.eqDisk of the same parts, by their contracts. -/
namespace Go.Proofs.Ytljooldjcefkoaa
open Go.RowKit Kit
set_option maxRecDepth 100000 in
set_option maxHeartbeats 1600000 in
theorem eqInoS_same (va vb : Value) (l : List Ino) (w : World) (ha : R3 KI w va l) (hb : R3 KI w vb l) (hl : l.length ≤ 1048576) (hp : ∀ (j : Nat) (h : j < l.length), l[j].2.2.length ≤ 1048576) :
    Calls Try.prog 29 #[va, vb] w fun e w' => e = .returned (.bool true) ∧ Below w.heap.size w w' := by
  obtain ⟨a1, c1, rfl, -, ha'⟩ := ha.ino
  obtain ⟨a2, c2, rfl, -, hb'⟩ := hb.ino
  have HA := hide ha'
  have HB := hide hb'
  have HP := hide hp
  clear ha hb hp ha' hb'
  go_enter Try.func29, Try.ntmps29
  go_wp2
  go_loopw [5] (fun i wr => ∃ j : Nat, j ≤ l.length ∧ i = .int .i64 j ∧ Below w.heap.size w wr) (fun i _ => l.length - (intOf i).toNat)
  case atStart => exact ⟨0, Nat.zero_le _, rfl, Below.refl _ _⟩
  case round =>
    obtain ⟨j, hj, rfl, hb⟩ := hrel
    by_cases hlt : j < l.length
    · obtain ⟨g1, o1, p1, rfl, hg1, m1, m2, m3, hr1⟩ := HA.out j hlt
      obtain ⟨g2, o2, p2, rfl, hg2, n1, n2, n3, hr2⟩ := HB.out j hlt
      have hpl := HP.out j hlt
      obtain ⟨x, hx⟩ : ∃ x, l[j] = x := ⟨_, rfl⟩
      obtain ⟨y, s, z⟩ := x
      rw [hx] at m1 m2 n1 n2 hr1 hr2 hpl
      obtain ⟨pa, pc, rfl⟩ := hr1.form
      obtain ⟨pb, pd, rfl⟩ := hr2.form
      simp only at m1 m2 m3 n1 n2 n3 hr1 hr2 hpl
      have HS : Hid (∀ w', Below w.heap.size w w' → w'.cell? ⟨g1, o1 + j * 3, none⟩ = some (.int .i64 y) ∧ w'.cell? ⟨g1, o1 + j * 3 + 1, none⟩ = some (.int .i64 s) ∧ w'.cell? ⟨g1, o1 + j * 3 + 2, none⟩ = some (.slice pa z.length pc) ∧ w'.cell? ⟨g2, o2 + j * 3, none⟩ = some (.int .i64 y) ∧ w'.cell? ⟨g2, o2 + j * 3 + 1, none⟩ = some (.int .i64 s) ∧ w'.cell? ⟨g2, o2 + j * 3 + 2, none⟩ = some (.slice pb z.length pd)) := fun w' hb =>
        ⟨(hb.cell (p := ⟨g1, o1 + j * 3, none⟩) hg1).trans m1, (hb.cell (p := ⟨g1, o1 + j * 3 + 1, none⟩) hg1).trans m2, (hb.cell (p := ⟨g1, o1 + j * 3 + 2, none⟩) hg1).trans m3, (hb.cell (p := ⟨g2, o2 + j * 3, none⟩) hg2).trans n1, (hb.cell (p := ⟨g2, o2 + j * 3 + 1, none⟩) hg2).trans n2, (hb.cell (p := ⟨g2, o2 + j * 3 + 2, none⟩) hg2).trans n3⟩
      have HR : Hid (∀ w', Below w.heap.size w w' → RInts w' (.slice pa z.length pc) z ∧ RInts w' (.slice pb z.length pd) z) := fun w' hb => ⟨hr1.below hb (Nat.le_refl _), hr2.below hb (Nat.le_refl _)⟩
      have HPL : Hid (z.length ≤ 1000000000) := Nat.le_trans hpl (by decide)
      clear hx m1 m2 m3 n1 n2 n3 hr1 hr2 hpl
      obtain ⟨r1, r2, r3, r4, r5, r6⟩ := HS.out _ hb
      have j0 : (0 : Int) ≤ (j : Int) := by omega
      have j1 : (j : Int) < (l.length : Int) := by omega
      have hsz := hb.size
      have HBB := hide hb
      clear hb
      go_wp2_with fail
      go_region_held3 (fun w' => w'.cell? ⟨g1, o1 + j * 3, none⟩ = some (.int .i64 y) ∧ w'.cell? ⟨g1, o1 + j * 3 + 1, none⟩ = some (.int .i64 s) ∧ w'.cell? ⟨g1, o1 + j * 3 + 2, none⟩ = some (.slice pa z.length pc) ∧ w'.cell? ⟨g2, o2 + j * 3, none⟩ = some (.int .i64 y) ∧ w'.cell? ⟨g2, o2 + j * 3 + 1, none⟩ = some (.int .i64 s) ∧ w'.cell? ⟨g2, o2 + j * 3 + 2, none⟩ = some (.slice pb z.length pd)) (first | exact HS.out _ HBB.out.drew | exact HS.out _ (HBB.out.trans ((of_drew B6).mono hsz))) ((go_at_call 57; refine (eqN_sameI _ _ _ _ z _ (HR.out _ HBB.out.drew).1 (HR.out _ HBB.out.drew).2 HPL.out).mono ?_; rintro e w6 ⟨rfl, B6⟩))
      have HB2 := hide (HBB.out.trans ((of_drew B6).mono hsz))
      clear B6
      go_wp2
      go_roundw
      case rel => exact ⟨j + 1, by omega, by go_num, HB2.out⟩
      case measure => simp [intOf]; omega
    · have HBB := hide hb
      clear hb
      go_wp2
      go_ret
      exact ⟨rfl, HBB.out⟩
set_option maxRecDepth 100000 in
set_option maxHeartbeats 1600000 in
theorem eqBlkS_same (va vb : Value) (l : List Blk) (w : World) (ha : R3 KB w va l) (hb : R3 KB w vb l) (hl : l.length ≤ 1048576) (hp : ∀ (j : Nat) (h : j < l.length), l[j].2.1.length ≤ 1048576) :
    Calls Try.prog 30 #[va, vb] w fun e w' => e = .returned (.bool true) ∧ Below w.heap.size w w' := by
  obtain ⟨a1, c1, rfl, -, ha'⟩ := ha.blk
  obtain ⟨a2, c2, rfl, -, hb'⟩ := hb.blk
  have HA := hide ha'
  have HB := hide hb'
  have HP := hide hp
  clear ha hb hp ha' hb'
  go_enter Try.func30, Try.ntmps30
  go_wp2
  go_loopw [5] (fun i wr => ∃ j : Nat, j ≤ l.length ∧ i = .int .i64 j ∧ Below w.heap.size w wr) (fun i _ => l.length - (intOf i).toNat)
  case atStart => exact ⟨0, Nat.zero_le _, rfl, Below.refl _ _⟩
  case round =>
    obtain ⟨j, hj, rfl, hb⟩ := hrel
    by_cases hlt : j < l.length
    · obtain ⟨g1, o1, p1, rfl, hg1, m1, m2, m3, hr1⟩ := HA.out j hlt
      obtain ⟨g2, o2, p2, rfl, hg2, n1, n2, n3, hr2⟩ := HB.out j hlt
      have hpl := HP.out j hlt
      obtain ⟨x, hx⟩ : ∃ x, l[j] = x := ⟨_, rfl⟩
      obtain ⟨y, s, z⟩ := x
      rw [hx] at m1 m3 n1 n3 hr1 hr2 hpl
      obtain ⟨pa, pc, rfl⟩ := hr1.form
      obtain ⟨pb, pd, rfl⟩ := hr2.form
      simp only at m1 m2 m3 n1 n2 n3 hr1 hr2 hpl
      have HS : Hid (∀ w', Below w.heap.size w w' → w'.cell? ⟨g1, o1 + j * 3, none⟩ = some (.bool y) ∧ w'.cell? ⟨g1, o1 + j * 3 + 1, none⟩ = some (.slice pa s.length pc) ∧ w'.cell? ⟨g1, o1 + j * 3 + 2, none⟩ = some (.string z) ∧ w'.cell? ⟨g2, o2 + j * 3, none⟩ = some (.bool y) ∧ w'.cell? ⟨g2, o2 + j * 3 + 1, none⟩ = some (.slice pb s.length pd) ∧ w'.cell? ⟨g2, o2 + j * 3 + 2, none⟩ = some (.string z)) := fun w' hb =>
        ⟨(hb.cell (p := ⟨g1, o1 + j * 3, none⟩) hg1).trans m1, (hb.cell (p := ⟨g1, o1 + j * 3 + 1, none⟩) hg1).trans m2, (hb.cell (p := ⟨g1, o1 + j * 3 + 2, none⟩) hg1).trans m3, (hb.cell (p := ⟨g2, o2 + j * 3, none⟩) hg2).trans n1, (hb.cell (p := ⟨g2, o2 + j * 3 + 1, none⟩) hg2).trans n2, (hb.cell (p := ⟨g2, o2 + j * 3 + 2, none⟩) hg2).trans n3⟩
      have HR : Hid (∀ w', Below w.heap.size w w' → RSl w' (.slice pa s.length pc) s ∧ RSl w' (.slice pb s.length pd) s) := fun w' hb => ⟨hr1.below hb (Nat.le_refl _), hr2.below hb (Nat.le_refl _)⟩
      have HPL := hide hpl
      clear hx m1 m2 m3 n1 n2 n3 hr1 hr2 hpl
      obtain ⟨r1, r2, r3, r4, r5, r6⟩ := HS.out _ hb
      have j0 : (0 : Int) ≤ (j : Int) := by omega
      have j1 : (j : Int) < (l.length : Int) := by omega
      have hsz := hb.size
      have HBB := hide hb
      clear hb
      go_wp2_with fail
      go_region_held3 (fun w' => w'.cell? ⟨g1, o1 + j * 3, none⟩ = some (.bool y) ∧ w'.cell? ⟨g1, o1 + j * 3 + 1, none⟩ = some (.slice pa s.length pc) ∧ w'.cell? ⟨g1, o1 + j * 3 + 2, none⟩ = some (.string z) ∧ w'.cell? ⟨g2, o2 + j * 3, none⟩ = some (.bool y) ∧ w'.cell? ⟨g2, o2 + j * 3 + 1, none⟩ = some (.slice pb s.length pd) ∧ w'.cell? ⟨g2, o2 + j * 3 + 2, none⟩ = some (.string z)) (first | exact HS.out _ HBB.out.drew | exact HS.out _ (HBB.out.trans ((of_drew B6).mono hsz))) ((go_at_call 58; refine (eqB_sameK _ _ _ _ s _ (HR.out _ HBB.out.drew).1 (HR.out _ HBB.out.drew).2 HPL.out).mono ?_; rintro e w6 ⟨rfl, B6⟩))
      have HB2 := hide (HBB.out.trans ((of_drew B6).mono hsz))
      clear B6
      go_wp2
      go_roundw
      case rel => exact ⟨j + 1, by omega, by go_num, HB2.out⟩
      case measure => simp [intOf]; omega
    · have HBB := hide hb
      clear hb
      go_wp2
      go_ret
      exact ⟨rfl, HBB.out⟩
set_option maxRecDepth 100000 in
set_option maxHeartbeats 1600000 in
theorem eqDisk_same (u v iv bv u' v' i' b' : Value) (xs ys : List Bool) (is : List Ino) (bs : List Blk) (w : World) (h : DR w u v iv bv xs ys is bs) (h' : DR w u' v' i' b' xs ys is bs) (hB : Big 1048576 xs ys is bs) :
    Calls Try.prog 9 #[.agg #[u, v, iv, bv], .agg #[u', v', i', b']] w fun e w' => e = .returned (.bool true) ∧ Below w.heap.size w w' := by
  have H := hide h
  have H' := hide h'
  have HG := hide hB
  obtain ⟨a1, c1, a2, c2, a3, c3, a4, c4, rfl, rfl, rfl, rfl⟩ := h.form
  obtain ⟨d1, k1, d2, k2, d3, k3, d4, k4, rfl, rfl, rfl, rfl⟩ := h'.form
  clear h hB h'
  go_enter Try.func9, Try.ntmps9
  go_wp2_with fail
  refine (eqN_sameB _ _ _ _ xs ys _ ((H.out.a.alloc _).alloc _) ((H.out.b.alloc _).alloc _) ((H'.out.a.alloc _).alloc _) ((H'.out.b.alloc _).alloc _) (Nat.le_trans HG.out.x (by decide)) (Nat.le_trans HG.out.y (by decide))).mono ?_
  rintro e w1 ⟨rfl, B1⟩
  have BW : Below w.heap.size w w1 := (((Below.refl _ w).alloc (Nat.le_refl _) _).alloc (by simp) _).trans (B1.mono (by simp; omega))
  have K0 : AtC w1 w.heap.size 36 #[.slice a1 xs.length c1, .slice a2 ys.length c2, .slice a3 is.length c3, .slice a4 bs.length c4] := ((AtC.new w 36 _).alloc _).over B1
  have K1 : AtC w1 (w.heap.size + 1) 36 #[.slice d1 xs.length k1, .slice d2 ys.length k2, .slice d3 is.length k3, .slice d4 bs.length k4] := by
    have := (AtC.new (w.alloc (Obj.cells #[.slice a1 xs.length c1, .slice a2 ys.length c2, .slice a3 is.length c3, .slice a4 bs.length c4] 36)) 36 #[.slice d1 xs.length k1, .slice d2 ys.length k2, .slice d3 is.length k3, .slice d4 bs.length k4]).over B1
    simpa using this
  have p2 : w1.cell? ⟨w.heap.size, 2, none⟩ = some (.slice a3 is.length c3) := K0.cell 2
  have q2 : w1.cell? ⟨w.heap.size + 1, 2, none⟩ = some (.slice d3 is.length k3) := K1.cell 2
  have HBW := hide BW
  have HK0 := hide K0
  have HK1 := hide K1
  clear B1 BW K0 K1
  go_wp2_with fail
  refine (eqInoS_same _ _ is _ (H.out.i.below HBW.out (Nat.le_refl _)) (H'.out.i.below HBW.out (Nat.le_refl _)) HG.out.i HG.out.p).mono ?_
  rintro e w2 ⟨rfl, B2⟩
  have BW2 := HBW.out.trans (B2.mono HBW.out.size)
  have K0 := HK0.out.over B2
  have K1 := HK1.out.over B2
  have p3 : w2.cell? ⟨w.heap.size, 3, none⟩ = some (.slice a4 bs.length c4) := K0.cell 3
  have q3 : w2.cell? ⟨w.heap.size + 1, 3, none⟩ = some (.slice d4 bs.length k4) := K1.cell 3
  have HBW2 := hide BW2
  clear B2 BW2 K0 K1 HBW
  go_wp2_with fail
  refine (eqBlkS_same _ _ bs _ (H.out.k.below HBW2.out (Nat.le_refl _)) (H'.out.k.below HBW2.out (Nat.le_refl _)) HG.out.b (fun j hj => (HG.out.s j hj).1)).mono ?_
  rintro e w3 ⟨rfl, B3⟩
  have HBW3 := hide (HBW2.out.trans (B3.mono HBW2.out.size))
  clear B3
  go_wp2
  go_ret
  exact ⟨rfl, HBW3.out⟩
end Go.Proofs.Ytljooldjcefkoaa
/- The walk of laws.FnExactTreeOf: it returns true at every disk. -/
namespace Go.Proofs.Ytljooldjcefkoaa
open Go.RowKit Kit
/-- What a disk tells. -/
def treeL (xs ys : List Bool) (is : List Ino) (bs : List Blk) : List Nd := if diskOk xs ys is bs = true then tellI is bs 4 1 ⟨#[]⟩ else []
theorem treeL_len (xs ys : List Bool) (is : List Ino) (bs : List Blk) : (treeL xs ys is bs).length ≤ 4680 := by
  unfold treeL
  split
  · rename_i h
    exact Nat.le_trans (tellI_len (RD.of_ok h) 4 1 ⟨#[]⟩) (deepN_le (by decide))
  · simp
theorem specTree_is (dx dy iv bv : Value) (xs ys : List Bool) (is : List Ino) (bs : List Blk) (w : World) (h : DR w dx dy iv bv xs ys is bs) (hG : Big 1048576 xs ys is bs) :
    Calls Try.prog 5 #[.agg #[dx, dy, iv, bv]] w fun e w' => ∃ v, e = .returned v ∧ NdO w' w.heap.size v (treeL xs ys is bs) ∧ Below w.heap.size w w' :=
  (specTree_any dx dy iv bv xs ys is bs w h hG).mono fun e w' ⟨v, l, e1, h1, h2, h3, h4⟩ => by
    refine ⟨v, e1, ?_, h2⟩
    unfold treeL
    cases hk : diskOk xs ys is bs with
    | true =>
      obtain ⟨p, s⟩ := h4 hk
      rw [if_pos rfl, ← tree_same (RD.of_ok hk) p s]
      exact h1
    | false =>
      rw [if_neg (by decide), ← h3 hk]
      exact h1
theorem implTree_is (dx dy iv bv : Value) (xs ys : List Bool) (is : List Ino) (bs : List Blk) (w : World) (h : DR w dx dy iv bv xs ys is bs) (hG : Big 1048576 xs ys is bs) :
    Calls Try.prog 7 #[.agg #[dx, dy, iv, bv]] w fun e w' => ∃ v, e = .returned v ∧ NdO w' w.heap.size v (treeL xs ys is bs) ∧ Below w.heap.size w w' :=
  (implTree_any dx dy iv bv xs ys is bs w h hG).mono fun e w' ⟨v, l, e1, h1, h2, h3, h4⟩ => by
    refine ⟨v, e1, ?_, h2⟩
    unfold treeL
    cases hk : diskOk xs ys is bs with
    | true => rw [if_pos rfl, ← h4 hk]; exact h1
    | false => rw [if_neg (by decide), ← h3 hk]; exact h1
/-- What the law holds: the argument, the two lists. -/
structure Lw (w W : World) (A : Array Value) (sv gv : Value) (l m : List Nd) : Prop where
  b : Below w.heap.size w W
  a : AtC W w.heap.size 28 A
  s : NdO W (w.heap.size + 1) sv l
  g : NdO W (w.heap.size + 1) gv m
  n : ∀ k, gv.ownBlock = some k → sv.ownBlock ≠ some k
theorem Lw.below {w W W' : World} {A : Array Value} {sv gv : Value} {l m : List Nd} (h : Lw w W A sv gv l m) (hb : Below W.heap.size W W') : Lw w W' A sv gv l m := ⟨h.b.trans (hb.mono h.b.size), h.a.over hb, h.s.below hb, h.g.below hb, h.n⟩
theorem Lw.chg {w W W' : World} {A : Array Value} {sv gv : Value} {l m : List Nd} {S : Nat → Prop} (h : Lw w W A sv gv l m) (hc : Chg S W W') (h1 : ∀ k, S k → w.heap.size + 1 ≤ k) (h2 : ∀ k, sv.ownBlock = some k → ¬ S k) (h3 : ∀ k, gv.ownBlock = some k → ¬ S k) : Lw w W' A sv gv l m :=
  ⟨h.b.trans (hc.below h.b.size (fun k hk => by have := h1 k hk; omega)), (hc.block _ h.a.lt (fun e => by have := h1 _ e; omega)).trans h.a, h.s.of_heap (fun k hk => hc.block k (h.s.lt k hk).2 (h2 k hk)), h.g.of_heap (fun k hk => hc.block k (h.g.lt k hk).2 (h3 k hk)), h.n⟩
theorem Lw.mark {w W W' : World} {A : Array Value} {sv gv : Value} {l m m' : List Nd} (h : Lw w W A sv gv l m) (hg : W.grownBy W' gv.ownBlock) (hn : NdO W' (w.heap.size + 1) gv m') : Lw w W' A sv gv l m' :=
  ⟨h.b.grown hg h.b.size (fun k hk => by have := (h.g.lt k hk).1; omega), h.a.grown hg (fun e => by have := (h.g.lt _ e).1; omega), h.s.of_heap (fun k hk => hg.block k (h.s.lt k hk).2 (fun e => h.n k e.symm hk)), hn, h.n⟩
theorem DO.bounded {w : World} {S : Nat → Prop} {u v iv bv : Value} {xs ys : List Bool} {is : List Ino} {bs : List Blk} (h : DO w S u v iv bv xs ys is bs) : DO w (fun k => S k ∧ k < w.heap.size) u v iv bv xs ys is bs := by
  obtain ⟨S1, S2, S3, ti, tb, h1, h2, h3, h4, h5, h6, h7⟩ := h
  refine ⟨fun k => S1 k ∧ k < w.heap.size, fun k => S2 k ∧ k < w.heap.size, fun k => S3 k ∧ k < w.heap.size, ti, tb, h1, fun k hk => ⟨h2 k hk, hk.elim (fun e => (h1.a.lt k e).2) (fun e => (h1.b.lt k e).2)⟩, ?_, ?_, fun k hk => ⟨fun e => (h5 k hk.1).1 e.1, fun e => (h5 k hk.1).2 e.1⟩, fun k hk e => h6 k hk.1 e.1, fun k hk => ?_⟩
  · exact ⟨h3.len, h3.row, h3.inn, h3.sep, h3.out, fun k e => ⟨h3.so k e, h3.row.lt k e⟩, fun j hj k e => ⟨h3.si j hj k e, KI.lt (h3.inn j hj (by rw [← h3.len]; exact hj)) k e⟩⟩
  · exact ⟨h4.len, h4.row, h4.inn, h4.sep, h4.out, fun k e => ⟨h4.so k e, h4.row.lt k e⟩, fun j hj k e => ⟨h4.si j hj k e, KB.lt (h4.inn j hj (by rw [← h4.len]; exact hj)) k e⟩⟩
  · rcases hk with e | e | e
    · exact ⟨h7 k (.inl e.1), e.2⟩
    · exact ⟨h7 k (.inr (.inl e.1)), e.2⟩
    · exact ⟨h7 k (.inr (.inr e.1)), e.2⟩
end Go.Proofs.Ytljooldjcefkoaa
/- The walk of laws.FnExactTreeOf: it returns true at every disk. -/
namespace Go.Proofs.Ytljooldjcefkoaa.fnExactTreeOf
open Go.RowKit Kit
set_option maxRecDepth 100000 in
set_option maxHeartbeats 6400000 in
theorem walk (u v iv bv : Value) (xs ys : List Bool) (is : List Ino) (bs : List Blk) (w : World) (h : DR w u v iv bv xs ys is bs) (hB : Big maxLen xs ys is bs) :
    Calls Try.prog 3 #[.agg #[u, v, iv, bv]] w fun e w' => e = .returned (.bool true) ∧ Below w.heap.size w w' := by
  obtain ⟨a1, c1, a2, c2, a3, c3, a4, c4, rfl, rfl, rfl, rfl⟩ := h.form
  have HV : Hid (∀ W, Below w.heap.size w W → DR W (.slice a1 xs.length c1) (.slice a2 ys.length c2) (.slice a3 is.length c3) (.slice a4 bs.length c4) xs ys is bs) := fun W b => h.below b (Nat.le_refl _)
  have HG := hide hB
  have HA0 := hide (AtC.new w 28 #[.slice a1 xs.length c1, .slice a2 ys.length c2, .slice a3 is.length c3, .slice a4 bs.length c4])
  have HB0 : Hid (Below w.heap.size w (w.alloc (.cells #[.slice a1 xs.length c1, .slice a2 ys.length c2, .slice a3 is.length c3, .slice a4 bs.length c4] 28))) := (Below.refl _ w).alloc (Nat.le_refl _) _
  clear h hB
  go_enter Try.func3, Try.ntmps3
  go_wp2_with fail
  have V0 := HV.out _ HB0.out
  refine (szDisk_L _ _ _ _ xs ys is bs _ _ V0.a V0.b V0.i V0.k (by omega) (by omega) HG.out).mono ?_
  rintro e w1 ⟨left, rfl, hL, B1⟩
  have HB1 := hide (HB0.out.trans (B1.mono HB0.out.size))
  have HA1 := hide (HA0.out.over B1)
  clear V0 B1 HA0 HB0 HG
  rcases hL with rfl | ⟨h0, h1, hBG⟩
  · go_wp2
    go_ret
    exact ⟨rfl, HB1.out⟩
  have HBG := hide hBG
  have n1 : decide (left < 0) = false := by simp; omega
  have CS := hide (fun u v i b W (hd : DR W u v i b xs ys is bs) => specTree_is u v i b xs ys is bs W hd hBG)
  have CI := hide (fun u v i b W (hd : DR W u v i b xs ys is bs) => implTree_is u v i b xs ys is bs W hd hBG)
  have HLN := hide (treeL_len xs ys is bs)
  have HCN := hide (cntD_big hBG)
  obtain ⟨L, hLL⟩ : ∃ l, treeL xs ys is bs = l := ⟨_, rfl⟩
  rw [hLL] at CS CI HLN
  clear hLL hBG
  have x0 : w1.cell? ⟨w.heap.size, 0, none⟩ = some (.slice a1 xs.length c1) := HA1.out.cell 0
  have x1 : w1.cell? ⟨w.heap.size, 1, none⟩ = some (.slice a2 ys.length c2) := HA1.out.cell 1
  have x2 : w1.cell? ⟨w.heap.size, 2, none⟩ = some (.slice a3 is.length c3) := HA1.out.cell 2
  have x3 : w1.cell? ⟨w.heap.size, 3, none⟩ = some (.slice a4 bs.length c4) := HA1.out.cell 3
  go_wp2_with fail
  refine (toDisk_any _ _ _ _ xs ys is bs _ (HV.out _ HB1.out) HBG.out).mono ?_
  rintro e w2 ⟨u2, v2, i2, k2, rfl, O2, B2⟩
  obtain ⟨s1, t1, s2, t2, s3, t3, s4, t4, rfl, rfl, rfl, rfl⟩ := O2.dr.form
  have HB2 := hide (HB1.out.trans (B2.mono HB1.out.size))
  have HA2 := hide (HA1.out.over B2)
  have HO2 := hide O2.dr
  clear O2 B2 x0 x1 x2 x3 HA1
  go_wp2_with fail
  refine (CS.out _ _ _ _ _ HO2.out).mono ?_
  rintro e w3 ⟨sv, rfl, N3, B3⟩
  obtain ⟨sa, sc, rfl⟩ := N3.form
  have HB3 := hide (HB2.out.trans (B3.mono HB2.out.size))
  have HA3 := hide (HA2.out.over B3)
  have HN3 := hide (And.intro N3 (And.intro HA2.out.lt B3.size))
  clear N3 B3 HO2 HA2 CS
  have x0 : w3.cell? ⟨w.heap.size, 0, none⟩ = some (.slice a1 xs.length c1) := HA3.out.cell 0
  have x1 : w3.cell? ⟨w.heap.size, 1, none⟩ = some (.slice a2 ys.length c2) := HA3.out.cell 1
  have x2 : w3.cell? ⟨w.heap.size, 2, none⟩ = some (.slice a3 is.length c3) := HA3.out.cell 2
  have x3 : w3.cell? ⟨w.heap.size, 3, none⟩ = some (.slice a4 bs.length c4) := HA3.out.cell 3
  go_wp2_with fail
  refine (toDisk_any _ _ _ _ xs ys is bs _ (HV.out _ HB3.out) HBG.out).mono ?_
  rintro e w4 ⟨u4, v4, i4, k4, rfl, O4, B4⟩
  obtain ⟨p1, r1, p2, r2, p3, r3, p4, r4, rfl, rfl, rfl, rfl⟩ := O4.dr.form
  have HB4 := hide (HB3.out.trans (B4.mono HB3.out.size))
  have HA4 := hide (HA3.out.over B4)
  have HO4 := hide (And.intro (DO.bounded O4) B4.size)
  have HN4 := hide (HN3.out.1.below B4)
  clear O4 B4 x0 x1 x2 x3 HA3
  obtain ⟨W5, hW5⟩ : ∃ W, w4.alloc (.cells #[.slice p1 xs.length r1, .slice p2 ys.length r2, .slice p3 is.length r3, .slice p4 bs.length r4] 36) = W := ⟨_, rfl⟩
  have HB5 : Hid (Below w4.heap.size w4 W5 ∧ AtC W5 w4.heap.size 36 #[.slice p1 xs.length r1, .slice p2 ys.length r2, .slice p3 is.length r3, .slice p4 bs.length r4] ∧ W5.heap.size = w4.heap.size + 1) := by rw [← hW5]; exact ⟨(Below.refl _ w4).alloc (Nat.le_refl _) _, AtC.new w4 36 _, by simp⟩
  have HO5 := hide (HO4.out.1.below HB5.out.1 (Nat.le_refl _))
  have z0 : W5.cell? ⟨w4.heap.size, 0, none⟩ = some (.slice p1 xs.length r1) := HB5.out.2.1.cell 0
  have z1 : W5.cell? ⟨w4.heap.size, 1, none⟩ = some (.slice p2 ys.length r2) := HB5.out.2.1.cell 1
  have z2 : W5.cell? ⟨w4.heap.size, 2, none⟩ = some (.slice p3 is.length r3) := HB5.out.2.1.cell 2
  have z3 : W5.cell? ⟨w4.heap.size, 3, none⟩ = some (.slice p4 bs.length r4) := HB5.out.2.1.cell 3
  go_wp2_with fail
  refine (CI.out _ _ _ _ _ HO5.out.dr).mono ?_
  rintro e w6 ⟨gv, rfl, N6, B6⟩
  obtain ⟨ga, gc, rfl⟩ := N6.form
  have HO6 := hide (HO5.out.below B6 (Nat.le_refl _))
  have HX6 := hide (HB5.out.2.1.over B6)
  have HL6 : Hid (Lw w w6 #[.slice a1 xs.length c1, .slice a2 ys.length c2, .slice a3 is.length c3, .slice a4 bs.length c4] (.slice sa L.length sc) (.slice ga L.length gc) L L) := by
    have s4 := HO4.out.2
    have s3 := HN3.out.2
    have s5 := HB5.out.2.2
    have b6 := HB5.out.1.trans (B6.mono HB5.out.1.size)
    refine ⟨HB4.out.trans (b6.mono HB4.out.size), HA4.out.over b6, (HN4.out.below b6).mono (by omega), N6.mono (by omega), fun k e1 e2 => ?_⟩
    have q1 := (N6.lt k e1).1
    have q2 := (HN3.out.1.lt k e2).2
    omega
  have HGL : Hid (∀ k, (Value.slice ga L.length gc).ownBlock = some k → ¬ (w3.heap.size ≤ k ∧ k < w4.heap.size)) := fun k hk e => by
    have := (N6.lt k hk).1
    have := HB5.out.2.2
    omega
  have HSL : Hid (∀ k, (Value.slice sa L.length sc).ownBlock = some k → ¬ (w3.heap.size ≤ k ∧ k < w4.heap.size)) := fun k hk e => by
    have := (HN3.out.1.lt k hk).2
    omega
  have HXB : Hid (w.heap.size + 1 ≤ w3.heap.size) := by have := HN3.out.2; show _ ≤ _; omega
  clear N6 B6 hW5 HB5 HO5 HN4 HA4 HB4 HO4 z0 z1 z2 z3
  go_wp2_with fail
  refine (eqNodeS_same _ _ L _ (NdO.rnd HL6.out.g) (NdO.rnd HL6.out.s) (by have := HLN.out; omega)).mono ?_
  rintro e w7 ⟨rfl, B7⟩
  have HL7 := hide (HL6.out.below B7)
  have HX7 := hide (HX6.out.over B7)
  have HO7 := hide (HO6.out.below B7 (Nat.le_refl _))
  clear B7 HL6 HX6 HO6
  have HKE : Hid (∀ W, Below w7.heap.size w7 W → (W.cell? ⟨w.heap.size, 0, none⟩ = some (.slice a1 xs.length c1) ∧ W.cell? ⟨w.heap.size, 1, none⟩ = some (.slice a2 ys.length c2) ∧ W.cell? ⟨w.heap.size, 2, none⟩ = some (.slice a3 is.length c3) ∧ W.cell? ⟨w.heap.size, 3, none⟩ = some (.slice a4 bs.length c4) ∧ W.cell? ⟨w4.heap.size, 0, none⟩ = some (.slice p1 xs.length r1) ∧ W.cell? ⟨w4.heap.size, 1, none⟩ = some (.slice p2 ys.length r2) ∧ W.cell? ⟨w4.heap.size, 2, none⟩ = some (.slice p3 is.length r3) ∧ W.cell? ⟨w4.heap.size, 3, none⟩ = some (.slice p4 bs.length r4)) ∧ DR W (.slice p1 xs.length r1) (.slice p2 ys.length r2) (.slice p3 is.length r3) (.slice p4 bs.length r4) xs ys is bs ∧ Below w.heap.size w W) := fun W b =>
    have ha := HL7.out.a.over b
    have hx := HX7.out.over b
    ⟨⟨ha.cell 0, ha.cell 1, ha.cell 2, ha.cell 3, hx.cell 0, hx.cell 1, hx.cell 2, hx.cell 3⟩, (HO7.out.below b (Nat.le_refl _)).dr, HL7.out.b.trans (b.mono HL7.out.b.size)⟩
  obtain ⟨⟨x0, x1, x2, x3, y0, y1, y2, y3⟩, -⟩ := HKE.out _ (Below.refl _ _)
  have BB := (Below.refl w7.heap.size w7).drew
  go_wp2
  go_region_held3 (fun W => W.cell? ⟨w.heap.size, 0, none⟩ = some (.slice a1 xs.length c1) ∧ W.cell? ⟨w.heap.size, 1, none⟩ = some (.slice a2 ys.length c2) ∧ W.cell? ⟨w.heap.size, 2, none⟩ = some (.slice a3 is.length c3) ∧ W.cell? ⟨w.heap.size, 3, none⟩ = some (.slice a4 bs.length c4) ∧ W.cell? ⟨w4.heap.size, 0, none⟩ = some (.slice p1 xs.length r1) ∧ W.cell? ⟨w4.heap.size, 1, none⟩ = some (.slice p2 ys.length r2) ∧ W.cell? ⟨w4.heap.size, 2, none⟩ = some (.slice p3 is.length r3) ∧ W.cell? ⟨w4.heap.size, 3, none⟩ = some (.slice p4 bs.length r4)) (first | exact (HKE.out _ BB).1 | exact (HKE.out _ (BB.trans (B9.mono BB.size))).1) (first | (go_at_call 6; refine (toDisk_any _ _ _ _ xs ys is bs _ (HV.out _ (HKE.out _ BB).2.2) HBG.out).mono ?_; rintro e w8 ⟨u8, v8, i8, k8, rfl, O8, B8⟩; obtain ⟨m1, l1, m2, l2, m3, l3, m4, l4, rfl, rfl, rfl, rfl⟩ := O8.dr.form; replace BB := BB.trans (B8.mono BB.size)) | (go_at_call 9; refine (eqDisk_same _ _ _ _ _ _ _ _ xs ys is bs _ (HKE.out _ BB).2.1 O8.dr HBG.out).mono ?_; rintro e w9 ⟨rfl, B9⟩))
  have HB9 := hide (BB.trans (B9.mono BB.size))
  clear BB B8 B9 O8 x0 x1 x2 x3 y0 y1 y2 y3
  have HL9 := hide (HL7.out.below HB9.out)
  have HX9 := hide (HX7.out.over HB9.out)
  have HO9 := hide (HO7.out.below HB9.out (Nat.le_refl _))
  clear HB9 HL7 HX7 HO7 HKE
  have z0 : w9.cell? ⟨w4.heap.size, 0, none⟩ = some (.slice p1 xs.length r1) := HX9.out.cell 0
  have z1 : w9.cell? ⟨w4.heap.size, 1, none⟩ = some (.slice p2 ys.length r2) := HX9.out.cell 1
  have z2 : w9.cell? ⟨w4.heap.size, 2, none⟩ = some (.slice p3 is.length r3) := HX9.out.cell 2
  have z3 : w9.cell? ⟨w4.heap.size, 3, none⟩ = some (.slice p4 bs.length r4) := HX9.out.cell 3
  go_wp2_with fail
  refine (markDisk_any _ _ _ _ xs ys is bs _ 1 _ HO9.out (by decide) (by have := HCN.out; omega)).mono ?_
  rintro e w10 ⟨rfl, -, C10⟩
  have HL10 := hide (HL9.out.chg C10 (fun k hk => by have := HXB.out; omega) HSL.out HGL.out)
  clear C10 HL9 HX9 HO9 z0 z1 z2 z3
  obtain ⟨CN, hCN⟩ : ∃ c, cntD 1 xs ys is bs = c := ⟨_, rfl⟩
  rw [hCN]
  have cn0 : decide ((CN : Int) < 0) = false := by simp
  clear hCN
  go_wp2_with fail
  refine (eqNodeS_same _ _ L _ (NdO.rnd HL10.out.g) (NdO.rnd HL10.out.s) (by have := HLN.out; omega)).mono ?_
  rintro e w11 ⟨rfl, B11⟩
  have HL11 := hide (HL10.out.below B11)
  clear B11 HL10
  have hl5 : L.length ≤ 4680 := HLN.out
  obtain ⟨M, hM⟩ : ∃ M, 1 + 4 * L.length = M := ⟨_, rfl⟩
  have hM0 : decide ((M : Int) < 0) = false := by simp
  have CM := hide (markNodeS_any _ L _ 1 _ HL11.out.g (by decide) (by decide) (by omega))
  have CHD := hide (fun W (hn : NdO W (w.heap.size + 1) (.slice ga L.length gc) (mksN 1 L.length)) => heldNodeS_any _ L.length _ 1 W hn (by decide) (by decide) (by omega))
  rw [hM] at CM CHD
  clear hM
  go_wp2_with fail
  refine CM.out.mono ?_
  rintro e w12 ⟨rfl, N12, G12⟩
  have HL12 := hide (HL11.out.mark G12 N12)
  clear N12 G12 HL11 CM
  go_wp2_with fail
  refine (CHD.out _ HL12.out.g).mono ?_
  rintro e w13 ⟨rfl, B13⟩
  have HL13 := hide (HL12.out.below B13)
  clear B13 HL12
  have x0 : w13.cell? ⟨w.heap.size, 0, none⟩ = some (.slice a1 xs.length c1) := HL13.out.a.cell 0
  have x1 : w13.cell? ⟨w.heap.size, 1, none⟩ = some (.slice a2 ys.length c2) := HL13.out.a.cell 1
  have x2 : w13.cell? ⟨w.heap.size, 2, none⟩ = some (.slice a3 is.length c3) := HL13.out.a.cell 2
  have x3 : w13.cell? ⟨w.heap.size, 3, none⟩ = some (.slice a4 bs.length c4) := HL13.out.a.cell 3
  go_wp2_with fail
  refine (toDisk_any _ _ _ _ xs ys is bs _ (HV.out _ HL13.out.b) HBG.out).mono ?_
  rintro e w14 ⟨u2, v2, i2, k2, rfl, O2, B2⟩
  obtain ⟨m1, l1, m2, l2, m3, l3, m4, l4, rfl, rfl, rfl, rfl⟩ := O2.dr.form
  have HL14 := hide (HL13.out.below B2)
  have HO14 := hide O2.dr
  clear O2 B2 x0 x1 x2 x3 HL13
  go_wp2_with fail
  refine (CI.out _ _ _ _ _ HO14.out).mono ?_
  rintro e w15 ⟨hv, rfl, N15, B15⟩
  obtain ⟨ha, hc, rfl⟩ := N15.form
  have HL15 := hide (HL14.out.below B15)
  have HN15 := hide N15
  clear N15 B15 HL14 HO14
  go_wp2_with fail
  refine (eqNodeS_same _ _ L _ (NdO.rnd HN15.out) (NdO.rnd HL15.out.s) (by omega)).mono ?_
  rintro e w16 ⟨rfl, B16⟩
  have HL16 := hide (HL15.out.below B16)
  clear B16 HL15 HN15
  go_wp2_with fail
  refine (CHD.out _ HL16.out.g).mono ?_
  rintro e w17 ⟨rfl, B17⟩
  have HB17 := hide (HL16.out.b.trans (B17.mono HL16.out.b.size))
  clear B17 HL16
  go_wp2
  go_ret
  exact ⟨rfl, HB17.out⟩
end Go.Proofs.Ytljooldjcefkoaa.fnExactTreeOf
