/- Texts of the proof, bundled: Ts, Opn. -/
import Derived.WalkKit
import Derived.ProofKit
import Derived.OpenShut
import Derived.ShutString
import Derived.ChangeOld
import Derived.Below
import Derived.Lib.SmallJoins
import Derived.Deep.SlicePairs
import Derived.Deep.Grids
import Derived.Test.YtljooldjcefkoaaGreatU03
/- A whole disk: how it lies, how it is read; laws.toInodeS, laws.toBlockS and laws.toDisk by their contracts. -/
namespace Go.Proofs.YtljooldjcefkoaaGreat.Kit
open Go.RowKit
theorem made_three (a b c : Value) (n : Nat) : (madeCells #[a, b, c] (n * 3)).toList = f3 (List.replicate n (a, b, c)) := by
  apply List.ext_getElem?
  intro j
  by_cases hj : j < n * 3
  · have e : (madeCells #[a, b, c] (n * 3)).toList[j]? = some (#[a, b, c][j % 3]!) := by simp [madeCells, hj]
    rw [e]
    obtain ⟨q, hq⟩ : ∃ q, q = j / 3 := ⟨_, rfl⟩
    have hql : q < (List.replicate n (a, b, c)).length := by simp; omega
    have k := f3_at (List.replicate n (a, b, c)) q hql
    have hm : j % 3 = 0 ∨ j % 3 = 1 ∨ j % 3 = 2 := by omega
    rcases hm with h | h | h
    · rw [show j = q * 3 by omega, k.1, show q * 3 % 3 = 0 by omega]; simp
    · rw [show j = q * 3 + 1 by omega, k.2.1, show (q * 3 + 1) % 3 = 1 by omega]; simp
    · rw [show j = q * 3 + 2 by omega, k.2.2, show (q * 3 + 2) % 3 = 2 by omega]; simp
  · rw [List.getElem?_eq_none (by simp [madeCells]; omega), List.getElem?_eq_none (by rw [f3_length]; simp; omega)]
/-- The first j are those of xs, the rest is z. -/
def cpy {α : Type} (z : α) (j : Nat) (xs : List α) : List α := xs.take j ++ List.replicate (xs.length - j) z
theorem cpy_length {α : Type} (z : α) (j : Nat) (xs : List α) (h : j ≤ xs.length) : (cpy z j xs).length = xs.length := by simp [cpy]; omega
theorem cpy_zero {α : Type} (z : α) (xs : List α) : cpy z 0 xs = List.replicate xs.length z := by simp [cpy]
theorem cpy_all {α : Type} (z : α) (xs : List α) : cpy z xs.length xs = xs := by simp [cpy]
theorem cpy_set {α : Type} (z : α) (j : Nat) (xs : List α) (h : j < xs.length) : (cpy z j xs).set j xs[j] = cpy z (j + 1) xs := by
  have hlen : (xs.take j).length = j := by simp; omega
  unfold cpy
  rw [List.set_append_right _ _ (by omega), hlen, Nat.sub_self, show xs.length - j = (xs.length - (j + 1)) + 1 by omega, List.replicate_succ, List.set_cons_zero,
    List.append_cons, List.take_append_getElem h]
namespace GO
variable {α : Type} {K : Kd α} {w w1 w' : World} {S S' : Nat → Prop} {v : Value} {ts : List V3} {xs : List α}
theorem bound (h : GO K w S v ts xs) : GO K w (fun k => S k ∧ k < w.heap.size) v ts xs :=
  ⟨h.len, h.row, h.inn, h.sep, h.out, fun k e => ⟨h.so k e, h.row.lt k e⟩, fun j hj k e => ⟨h.si j hj k e, K.lt (h.inn j hj (by rw [← h.len]; exact hj)) k e⟩⟩
theorem setCell_other (h : GO K w S v ts xs) {b j : Nat} (hb : ¬ S b) (x : Value) : GO K (w.setCell ⟨b, j, none⟩ x) S v ts xs :=
  h.of_heap fun k hs _ => heap_setCell_other w ⟨b, j, none⟩ k x (fun e => hb (by simp at e; subst e; exact hs))
/-- One of them is stored anew, with a slice that came behind w. -/
theorem put (h : GO K w S v ts xs) {g n cap : Nat} (hv : v = .slice (some ⟨g, 0, none⟩) n cap) (j : Nat) (hj : j < ts.length) (t' : V3) (x' : α) (hb : Below w.heap.size w w1) (hO : K.O w1 t' x')
    (hn : ∀ k, (K.p t').ownBlock = some k → w.heap.size ≤ k) (hs : ∀ k, S k → S' k) (hs2 : ∀ k, w.heap.size ≤ k → S' k) :
    GO K (((w1.setCell ⟨g, j * 3, none⟩ t'.1).setCell ⟨g, j * 3 + 1, none⟩ t'.2.1).setCell ⟨g, j * 3 + 2, none⟩ t'.2.2) S' v (ts.set j t') (xs.set j x') := by
  have hg : g < w.heap.size := h.row.lt g (by rw [hv]; rfl)
  have r1 : TOwns w1 K.T v ts := h.row.of_heap fun k hk => hb.block k (h.row.lt k hk)
  have hlen : n = ts.length := by
    obtain ⟨a, c, e, _⟩ := h.row.form
    rw [hv] at e
    simp only [Value.slice.injEq] at e
    exact e.2.1
  have hoth : ∀ k, k ≠ g → (((w1.setCell ⟨g, j * 3, none⟩ t'.1).setCell ⟨g, j * 3 + 1, none⟩ t'.2.1).setCell ⟨g, j * 3 + 2, none⟩ t'.2.2).heap[k]? = w1.heap[k]? := fun k hk =>
    ((heap_setCell_other _ ⟨g, j * 3 + 2, none⟩ k _ (by simpa using hk)).trans (heap_setCell_other _ ⟨g, j * 3 + 1, none⟩ k _ (by simpa using hk))).trans (heap_setCell_other _ ⟨g, j * 3, none⟩ k _ (by simpa using hk))
  subst hlen
  subst hv
  refine h.turn j hj t' x' ?_ (K.heap hO fun k hk => hoth k (by have := hn k hk; omega)) (fun k hk h1 _ => (hoth k (fun e => h1 (by rw [e]; rfl))).trans (hb.block k hk)) (fun k hk => .inr (hn k hk)) hs (fun k hk => hs2 k (hn k hk))
  exact r1.set j hj _ _ _
/-- As many zeroes, made anew. -/
theorem made (w : World) (z : V3) (x : α) (n : Nat) (hm : n ≤ maxLen) (cs : Array Value) (hc : cs.toList = f3 (List.replicate n z)) (hO : ∀ w, K.O w z x) (hz : (K.p z).ownBlock = none) :
    GO K (w.alloc (.cells cs K.T)) (fun k => w.heap.size ≤ k) (.slice (some ⟨w.heap.size, 0, none⟩) n n) (List.replicate n z) (List.replicate n x) := by
  refine ⟨by simp, ?_, fun j hj hj' => ?_, fun i j hi hj _ k e => ?_, fun j hj k e => ?_, fun k e => ?_, fun j hj k e => ?_⟩
  · have := TOwns.lit w K.T cs (List.replicate n z) hc (by simpa using hm)
    simpa using this
  · simp only [List.getElem_replicate]
    exact hO _
  · simp only [List.getElem_replicate] at e
    rw [hz] at e; cases e
  · simp only [List.getElem_replicate] at e
    rw [hz] at e; cases e
  · simp only [Value.ownBlock, Option.some.injEq] at e
    omega
  · simp only [List.getElem_replicate] at e
    rw [hz] at e; cases e
end GO
/-- An inode, a block of zeroes, and their cells. -/
def zI : Ino := (0, 0, [])
def zB : Blk := (false, [], ⟨#[]⟩)
def zI3 : V3 := (.int .i64 0, .int .i64 0, .slice none 0 0)
def zB3 : V3 := (.bool false, .slice none 0 0, .string ⟨#[]⟩)
theorem zI_own (w : World) : KI.O w zI3 zI := ⟨rfl, rfl, ROwns.nil _ _ _⟩
theorem zB_own (w : World) : KB.O w zB3 zB := ⟨rfl, SOwns.nil _ _ _, rfl⟩
/-- The parts of a disk are read so. -/
structure DR (w : World) (u v iv bv : Value) (xs ys : List Bool) (is : List Ino) (bs : List Blk) : Prop where
  a : RFl w u xs
  b : RFl w v ys
  i : R3 KI w iv is
  k : R3 KB w bv bs
namespace DR
variable {w w' : World} {u v iv bv : Value} {xs ys : List Bool} {is : List Ino} {bs : List Blk}
theorem below {B : Nat} (h : DR w u v iv bv xs ys is bs) (hb : Below B w w') (hB : w.heap.size ≤ B) : DR w' u v iv bv xs ys is bs := ⟨h.a.below hb hB, h.b.below hb hB, h.i.below hb hB, h.k.below hb hB⟩
theorem alloc (h : DR w u v iv bv xs ys is bs) (o : Obj) : DR (w.alloc o) u v iv bv xs ys is bs := h.below ((Below.refl _ w).alloc (Nat.le_refl _) o) (Nat.le_refl _)
theorem drew (h : DR w u v iv bv xs ys is bs) : DR w.drew u v iv bv xs ys is bs := h.below (Below.refl w.heap.size w).drew (Nat.le_refl _)
theorem form (h : DR w u v iv bv xs ys is bs) : ∃ a1 c1 a2 c2 a3 c3 a4 c4, u = .slice a1 xs.length c1 ∧ v = .slice a2 ys.length c2 ∧ iv = .slice a3 is.length c3 ∧ bv = .slice a4 bs.length c4 := by
  obtain ⟨a1, c1, e1⟩ := h.a.form
  obtain ⟨a2, c2, e2⟩ := h.b.form
  obtain ⟨a3, c3, e3⟩ := h.i.form
  obtain ⟨a4, c4, e4⟩ := h.k.form
  exact ⟨a1, c1, a2, c2, a3, c3, a4, c4, e1, e2, e3, e4⟩
end DR
/-- The parts of a disk are owned, each in blocks of its own, all of them of S. -/
def DO (w : World) (S : Nat → Prop) (u v iv bv : Value) (xs ys : List Bool) (is : List Ino) (bs : List Blk) : Prop :=
  ∃ (S1 S2 S3 : Nat → Prop) (ti tb : List V3), Two w 0 u v xs ys ∧ (∀ k, (u.ownBlock = some k ∨ v.ownBlock = some k) → S1 k) ∧ GO KI w S2 iv ti is ∧ GO KB w S3 bv tb bs ∧ (∀ k, S1 k → ¬ S2 k ∧ ¬ S3 k) ∧ (∀ k, S2 k → ¬ S3 k) ∧ ∀ k, S1 k ∨ S2 k ∨ S3 k → S k
namespace DO
variable {w w' : World} {S S' : Nat → Prop} {u v iv bv : Value} {xs ys : List Bool} {is : List Ino} {bs : List Blk}
theorem of_heap (h : DO w S u v iv bv xs ys is bs) (hh : ∀ k, S k → k < w.heap.size → w'.heap[k]? = w.heap[k]?) : DO w' S u v iv bv xs ys is bs := by
  obtain ⟨S1, S2, S3, ti, tb, h1, h2, h3, h4, h5, h6, h7⟩ := h
  refine ⟨S1, S2, S3, ti, tb, ⟨h1.a.of_heap fun k hk => hh k (h7 k (.inl (h2 k (.inl hk)))) (h1.a.lt k hk).2, h1.b.of_heap fun k hk => hh k (h7 k (.inl (h2 k (.inr hk)))) (h1.b.lt k hk).2, h1.ne⟩, h2, h3.of_heap fun k hs hk => hh k (h7 k (.inr (.inl hs))) hk, h4.of_heap fun k hs hk => hh k (h7 k (.inr (.inr hs))) hk, h5, h6, h7⟩
theorem below {B : Nat} (h : DO w S u v iv bv xs ys is bs) (hb : Below B w w') (hB : w.heap.size ≤ B) : DO w' S u v iv bv xs ys is bs := h.of_heap fun k _ hk => hb.block k (by omega)
theorem alloc (h : DO w S u v iv bv xs ys is bs) (o : Obj) : DO (w.alloc o) S u v iv bv xs ys is bs := h.below ((Below.refl _ w).alloc (Nat.le_refl _) o) (Nat.le_refl _)
theorem chg (h : DO w S u v iv bv xs ys is bs) (hc : Chg S' w w') (hd : ∀ k, S k → ¬ S' k) : DO w' S u v iv bv xs ys is bs := h.of_heap fun k hs hk => hc.block k hk (hd k hs)
theorem mono (h : DO w S u v iv bv xs ys is bs) (hs : ∀ k, S k → S' k) : DO w S' u v iv bv xs ys is bs := by
  obtain ⟨S1, S2, S3, ti, tb, h1, h2, h3, h4, h5, h6, h7⟩ := h
  exact ⟨S1, S2, S3, ti, tb, h1, h2, h3, h4, h5, h6, fun k hk => hs k (h7 k hk)⟩
theorem dr (h : DO w S u v iv bv xs ys is bs) : DR w u v iv bv xs ys is bs := by
  obtain ⟨S1, S2, S3, ti, tb, h1, h2, h3, h4, -⟩ := h
  exact ⟨h1.a.rfl, h1.b.rfl, h3.r3, h4.r3⟩
end DO
end Go.Proofs.YtljooldjcefkoaaGreat.Kit
namespace Go.Proofs.YtljooldjcefkoaaGreat
open Go.RowKit Kit
theorem Tryz.u32 : Tryz.prog.underlying 32 = some (.slice 44) := by kernel_rfl
theorem Tryz.i44 : (Tryz.prog.info? 44).map (fun i => (i.zero, i.size, i.bytes)) = some (some (.agg #[.int .i64 0, .int .i64 0, .slice none 0 0]), 3, 40) := by kernel_rfl
theorem Tryz.u33 : Tryz.prog.underlying 33 = some (.slice 73) := by kernel_rfl
theorem Tryz.i73 : (Tryz.prog.info? 73).map (fun i => (i.zero, i.size, i.bytes)) = some (some (.agg #[.bool false, .slice none 0 0, .string ⟨#[]⟩]), 3, 48) := by kernel_rfl
theorem make_ino (n : Nat) (h : n ≤ 1048576) (w : World) : (Instr.makeSlice 32 (.int .i64 (n : Int)) (.int .i64 (n : Int))).run Tryz.prog w = .ok (.slice (some ⟨w.heap.size, 0, none⟩) n n) (w.alloc (.cells (madeCells #[.int .i64 0, .int .i64 0, .slice none 0 0] (n * 3)) 44)) := by
  obtain ⟨i0, hi, hz0, hz1, hz2⟩ := info_parts Tryz.i44
  rw [run_make w 32 44 i0 _ Tryz.u32 hi hz0 .i64 .i64 n n (by omega) (by omega) (by rw [hz2]; omega) (by omega), hz1]
  rfl
theorem make_blk (n : Nat) (h : n ≤ 1048576) (w : World) : (Instr.makeSlice 33 (.int .i64 (n : Int)) (.int .i64 (n : Int))).run Tryz.prog w = .ok (.slice (some ⟨w.heap.size, 0, none⟩) n n) (w.alloc (.cells (madeCells #[.bool false, .slice none 0 0, .string ⟨#[]⟩] (n * 3)) 73)) := by
  obtain ⟨i0, hi, hz0, hz1, hz2⟩ := info_parts Tryz.i73
  rw [run_make w 33 73 i0 _ Tryz.u33 hi hz0 .i64 .i64 n n (by omega) (by omega) (by rw [hz2]; omega) (by omega), hz1]
  rfl
set_option maxRecDepth 100000 in
set_option maxHeartbeats 1600000 in
theorem toInoS_any (v : Value) (xs : List Ino) (w : World) (hv : R3 KI w v xs) (hl : xs.length ≤ 1048576) (hp : ∀ (j : Nat) (h : j < xs.length), xs[j].2.2.length ≤ 1048576) :
    Calls Tryz.prog 22 #[v] w fun e w' => ∃ u ts, e = .returned u ∧ GO KI w' (fun k => w.heap.size ≤ k) u ts xs ∧ Below w.heap.size w w' := by
  obtain ⟨a, c, rfl, -, hc⟩ := hv.ino
  have HC := hide hc
  have HP := hide hp
  clear hc hv hp
  have mk := make_ino xs.length hl
  go_enter Tryz.func22, Tryz.ntmps22
  go_wp2
  go_loopw [4] (fun i wr => ∃ (j : Nat) (ts : List V3), j ≤ xs.length ∧ i = .int .i64 j ∧ GO KI wr (fun k => w.heap.size ≤ k) (.slice (some ⟨w.heap.size, 0, none⟩) xs.length xs.length) ts (cpy zI j xs) ∧ Below w.heap.size w wr) (fun i _ => xs.length - (intOf i).toNat)
  case atStart =>
    refine ⟨0, List.replicate xs.length zI3, Nat.zero_le _, rfl, ?_, (Below.refl _ w).alloc (Nat.le_refl _) _⟩
    rw [cpy_zero]
    exact GO.made (K := KI) w zI3 zI xs.length (by unfold maxLen; omega) _ (made_three _ _ _ _) zI_own rfl
  case round =>
    obtain ⟨j, ts, hj, rfl, hown, hb⟩ := hrel
    by_cases hlt : j < xs.length
    · obtain ⟨g, off, p, rfl, hg, m1, m2, m3, hp⟩ := HC.out j hlt
      have q1 := (hb.cell (p := ⟨g, off + j * 3, none⟩) hg).trans m1
      have q2 := (hb.cell (p := ⟨g, off + j * 3 + 1, none⟩) hg).trans m2
      have q3 := (hb.cell (p := ⟨g, off + j * 3 + 2, none⟩) hg).trans m3
      have hp2 := hp.below hb (Nat.le_refl _)
      have hpl := HP.out j hlt
      have CS := hide (cpy_set zI j xs hlt)
      obtain ⟨y, hy⟩ : ∃ y, xs[j].1 = y := ⟨_, rfl⟩
      obtain ⟨s, hs⟩ : ∃ s, xs[j].2.1 = s := ⟨_, rfl⟩
      obtain ⟨z, hz⟩ : ∃ z, xs[j].2.2 = z := ⟨_, rfl⟩
      have hx : xs[j] = (y, s, z) := by rw [← hy, ← hs, ← hz]
      rw [hy] at q1
      rw [hs] at q2
      rw [hz] at hp2 hpl
      rw [hx] at CS
      have hjt : j < ts.length := by rw [hown.len, cpy_length _ _ _ hj]; exact hlt
      obtain ⟨g3, c3, e3, k1, k2, k3, k4, k5, -⟩ := hown.row.at j hjt
      simp only [Value.slice.injEq, Option.some.injEq, Addr.mk.injEq] at e3
      obtain ⟨⟨rfl, -, -⟩, -, -⟩ := e3
      obtain ⟨o, ho⟩ : ∃ o : V3, ts[j] = o := ⟨_, rfl⟩
      rw [ho] at k1 k2 k3
      have HQ := hide (And.intro k5 (And.intro hjt hpl))
      have HK : Hid (∀ w1, Below wr.heap.size wr w1 → w1.cell? ⟨w.heap.size, j * 3, none⟩ = some o.1 ∧ w1.cell? ⟨w.heap.size, j * 3 + 1, none⟩ = some o.2.1 ∧ w1.cell? ⟨w.heap.size, j * 3 + 2, none⟩ = some o.2.2 ∧ (∀ i, w1.frozen? ⟨w.heap.size, i, none⟩ = false)) := fun w1 b =>
        ⟨(b.cell (p := ⟨w.heap.size, j * 3, none⟩) k5).trans k1, (b.cell (p := ⟨w.heap.size, j * 3 + 1, none⟩) k5).trans k2, (b.cell (p := ⟨w.heap.size, j * 3 + 2, none⟩) k5).trans k3, fun i => (b.frozen (p := ⟨w.heap.size, i, none⟩) k5).trans (k4 i)⟩
      have HPT := hide hp2
      have HOWN := hide hown
      have HB := hide hb
      have hsz := hb.size
      have hgw : ¬ g = w.heap.size := by omega
      have j0 : (0 : Int) ≤ (j : Int) := by omega
      have j1 : (j : Int) < (xs.length : Int) := by omega
      clear hown hb m1 m2 m3 hy hs hz hx hp hp2 mk k1 k2 k3 k4 hpl ho hjt
      go_wp2_with (go_at_call 54; refine (toN_anyI _ _ _ z _ HPT.out HQ.out.2.2).mono ?_; rintro e w1 ⟨u, rfl, O1, B1⟩; obtain ⟨ua, uc, rfl⟩ := O1.rints.form; obtain ⟨k1, k2, k3, k4⟩ := HK.out w1 B1; have hk4 := k4 (j * 3); have hk5 := k4 (j * 3 + 1); have hk6 := k4 (j * 3 + 2); have O2 := HOWN.out.put (S' := fun k => w.heap.size ≤ k) rfl j HQ.out.2.1 (.int .i64 y, .int .i64 s, .slice ua z.length uc) (y, s, z) B1 ⟨rfl, rfl, O1.base_le (Nat.zero_le _)⟩ (fun k hk => (O1.lt k hk).1) (fun k hk => hk) (fun k hk => by omega); rw [CS.out] at O2; have HO := hide (And.intro O2 ((((HB.out.trans (B1.mono hsz)).setCell (p := ⟨w.heap.size, j * 3, none⟩) (Nat.le_refl _) (.int .i64 y)).setCell (p := ⟨w.heap.size, j * 3 + 1, none⟩) (Nat.le_refl _) (.int .i64 s)).setCell (p := ⟨w.heap.size, j * 3 + 2, none⟩) (Nat.le_refl _) (.slice ua z.length uc))); clear O1 O2 B1 k4)
      go_roundw
      case rel => exact ⟨j + 1, _, by omega, by go_num, HO.out.1, HO.out.2⟩
      case measure => simp [intOf]; omega
    · have hjl : j = xs.length := by omega
      have HR := hide (And.intro hown hb)
      have HJ := hide hjl
      clear hown hb hjl mk
      go_wp2
      go_ret
      exact ⟨_, ts, rfl, by have := HR.out.1; rwa [HJ.out, cpy_all] at this, HR.out.2⟩
set_option maxRecDepth 100000 in
set_option maxHeartbeats 1600000 in
theorem toBlkS_any (v : Value) (xs : List Blk) (w : World) (hv : R3 KB w v xs) (hl : xs.length ≤ 1048576) (hp : ∀ (j : Nat) (h : j < xs.length), xs[j].2.1.length ≤ 1048576) :
    Calls Tryz.prog 23 #[v] w fun e w' => ∃ u ts, e = .returned u ∧ GO KB w' (fun k => w.heap.size ≤ k) u ts xs ∧ Below w.heap.size w w' := by
  obtain ⟨a, c, rfl, -, hc⟩ := hv.blk
  have HC := hide hc
  have HP := hide hp
  clear hc hv hp
  have mk := make_blk xs.length hl
  go_enter Tryz.func23, Tryz.ntmps23
  go_wp2
  go_loopw [4] (fun i wr => ∃ (j : Nat) (ts : List V3), j ≤ xs.length ∧ i = .int .i64 j ∧ GO KB wr (fun k => w.heap.size ≤ k) (.slice (some ⟨w.heap.size, 0, none⟩) xs.length xs.length) ts (cpy zB j xs) ∧ Below w.heap.size w wr) (fun i _ => xs.length - (intOf i).toNat)
  case atStart =>
    refine ⟨0, List.replicate xs.length zB3, Nat.zero_le _, rfl, ?_, (Below.refl _ w).alloc (Nat.le_refl _) _⟩
    rw [cpy_zero]
    exact GO.made (K := KB) w zB3 zB xs.length (by unfold maxLen; omega) _ (made_three _ _ _ _) zB_own rfl
  case round =>
    obtain ⟨j, ts, hj, rfl, hown, hb⟩ := hrel
    by_cases hlt : j < xs.length
    · obtain ⟨g, off, p, rfl, hg, m1, m2, m3, hp⟩ := HC.out j hlt
      have q1 := (hb.cell (p := ⟨g, off + j * 3, none⟩) hg).trans m1
      have q2 := (hb.cell (p := ⟨g, off + j * 3 + 1, none⟩) hg).trans m2
      have q3 := (hb.cell (p := ⟨g, off + j * 3 + 2, none⟩) hg).trans m3
      have hp2 := hp.below hb (Nat.le_refl _)
      have hpl := HP.out j hlt
      have CS := hide (cpy_set zB j xs hlt)
      obtain ⟨y, hy⟩ : ∃ y, xs[j].1 = y := ⟨_, rfl⟩
      obtain ⟨s, hs⟩ : ∃ s, xs[j].2.1 = s := ⟨_, rfl⟩
      obtain ⟨z, hz⟩ : ∃ z, xs[j].2.2 = z := ⟨_, rfl⟩
      have hx : xs[j] = (y, s, z) := by rw [← hy, ← hs, ← hz]
      rw [hy] at q1
      rw [hz] at q3
      rw [hs] at hp2 hpl
      rw [hx] at CS
      have hjt : j < ts.length := by rw [hown.len, cpy_length _ _ _ hj]; exact hlt
      obtain ⟨g3, c3, e3, k1, k2, k3, k4, k5, -⟩ := hown.row.at j hjt
      simp only [Value.slice.injEq, Option.some.injEq, Addr.mk.injEq] at e3
      obtain ⟨⟨rfl, -, -⟩, -, -⟩ := e3
      obtain ⟨o, ho⟩ : ∃ o : V3, ts[j] = o := ⟨_, rfl⟩
      rw [ho] at k1 k2 k3
      have HQ := hide (And.intro k5 (And.intro hjt hpl))
      have HK : Hid (∀ w1, Below wr.heap.size wr w1 → w1.cell? ⟨w.heap.size, j * 3, none⟩ = some o.1 ∧ w1.cell? ⟨w.heap.size, j * 3 + 1, none⟩ = some o.2.1 ∧ w1.cell? ⟨w.heap.size, j * 3 + 2, none⟩ = some o.2.2 ∧ (∀ i, w1.frozen? ⟨w.heap.size, i, none⟩ = false)) := fun w1 b =>
        ⟨(b.cell (p := ⟨w.heap.size, j * 3, none⟩) k5).trans k1, (b.cell (p := ⟨w.heap.size, j * 3 + 1, none⟩) k5).trans k2, (b.cell (p := ⟨w.heap.size, j * 3 + 2, none⟩) k5).trans k3, fun i => (b.frozen (p := ⟨w.heap.size, i, none⟩) k5).trans (k4 i)⟩
      have HPT := hide hp2
      have HOWN := hide hown
      have HB := hide hb
      have hsz := hb.size
      have hgw : ¬ g = w.heap.size := by omega
      have j0 : (0 : Int) ≤ (j : Int) := by omega
      have j1 : (j : Int) < (xs.length : Int) := by omega
      clear hown hb m1 m2 m3 hy hs hz hx hp hp2 mk k1 k2 k3 k4 hpl ho hjt
      go_wp2_with (go_at_call 55; refine (toB_anyK _ _ _ s _ HPT.out HQ.out.2.2).mono ?_; rintro e w1 ⟨u, rfl, O1, B1⟩; obtain ⟨ua, uc, rfl⟩ := O1.rsl.form; obtain ⟨k1, k2, k3, k4⟩ := HK.out w1 B1; have hk4 := k4 (j * 3); have hk5 := k4 (j * 3 + 1); have hk6 := k4 (j * 3 + 2); have O2 := HOWN.out.put (S' := fun k => w.heap.size ≤ k) rfl j HQ.out.2.1 (.bool y, .slice ua s.length uc, .string z) (y, s, z) B1 ⟨rfl, O1.base_le (Nat.zero_le _), rfl⟩ (fun k hk => (O1.lt k hk).1) (fun k hk => hk) (fun k hk => by omega); rw [CS.out] at O2; have HO := hide (And.intro O2 ((((HB.out.trans (B1.mono hsz)).setCell (p := ⟨w.heap.size, j * 3, none⟩) (Nat.le_refl _) (.bool y)).setCell (p := ⟨w.heap.size, j * 3 + 1, none⟩) (Nat.le_refl _) (.slice ua s.length uc)).setCell (p := ⟨w.heap.size, j * 3 + 2, none⟩) (Nat.le_refl _) (.string z))); clear O1 O2 B1 k4)
      go_roundw
      case rel => exact ⟨j + 1, _, by omega, by go_num, HO.out.1, HO.out.2⟩
      case measure => simp [intOf]; omega
    · have hjl : j = xs.length := by omega
      have HR := hide (And.intro hown hb)
      have HJ := hide hjl
      clear hown hb hjl mk
      go_wp2
      go_ret
      exact ⟨_, ts, rfl, by have := HR.out.1; rwa [HJ.out, cpy_all] at this, HR.out.2⟩
set_option maxRecDepth 100000 in
set_option maxHeartbeats 3200000 in
theorem toDisk_any (u v iv bv : Value) (xs ys : List Bool) (is : List Ino) (bs : List Blk) (w : World) (h : DR w u v iv bv xs ys is bs) (hB : Big 1048576 xs ys is bs) :
    Calls Tryz.prog 7 #[.agg #[u, v, iv, bv]] w fun e w' => ∃ u' v' i' b', e = .returned (.agg #[u', v', i', b']) ∧ DO w' (fun k => w.heap.size ≤ k) u' v' i' b' xs ys is bs ∧ Below w.heap.size w w' := by
  have H := hide h
  have HG := hide hB
  obtain ⟨a1, c1, a2, c2, a3, c3, a4, c4, rfl, rfl, rfl, rfl⟩ := h.form
  clear h hB
  go_enter Tryz.func7, Tryz.ntmps7
  go_wp2_with fail
  refine (toN_anyB _ _ xs ys _ (((H.out.a.alloc _).alloc _).alloc _) (((H.out.b.alloc _).alloc _).alloc _) HG.out.x HG.out.y).mono ?_
  rintro e w1 ⟨u1, v1, rfl, T1, B1⟩
  obtain ⟨e1, f1, e2, f2, rfl, rfl⟩ := T1.form
  have BW : Below w.heap.size w w1 := ((((Below.refl _ w).alloc (Nat.le_refl _) _).alloc (by simp) _).alloc (by simp; omega) _).trans (B1.mono (by simp; omega))
  have K0 : AtC w1 w.heap.size 28 #[.slice a1 xs.length c1, .slice a2 ys.length c2, .slice a3 is.length c3, .slice a4 bs.length c4] := (((AtC.new w 28 _).alloc _).alloc _).over B1
  have K1 : AtC w1 (w.heap.size + 1) 35 #[.slice none 0 0, .slice none 0 0, .slice none 0 0, .slice none 0 0] := by
    have := ((AtC.new (w.alloc (Obj.cells #[.slice a1 xs.length c1, .slice a2 ys.length c2, .slice a3 is.length c3, .slice a4 bs.length c4] 28)) 35 #[.slice none 0 0, .slice none 0 0, .slice none 0 0, .slice none 0 0]).alloc (Obj.cells #[.slice none 0 0, .slice none 0 0, .slice none 0 0, .slice none 0 0] 35)).over B1
    simpa using this
  have K2 : AtC w1 (w.heap.size + 1 + 1) 35 #[.slice none 0 0, .slice none 0 0, .slice none 0 0, .slice none 0 0] := by
    have := (AtC.new ((w.alloc (Obj.cells #[.slice a1 xs.length c1, .slice a2 ys.length c2, .slice a3 is.length c3, .slice a4 bs.length c4] 28)).alloc (Obj.cells #[.slice none 0 0, .slice none 0 0, .slice none 0 0, .slice none 0 0] 35)) 35 #[.slice none 0 0, .slice none 0 0, .slice none 0 0, .slice none 0 0]).over B1
    simpa using this
  have T2 : Two w1 (w.heap.size + 1 + 1 + 1) (.slice e1 xs.length f1) (.slice e2 ys.length f2) xs ys := T1.base_le (by simp)
  have HT := hide T2
  have HLU : Hid (∀ k, ((Value.slice e1 xs.length f1).ownBlock = some k ∨ (Value.slice e2 ys.length f2).ownBlock = some k) → w.heap.size + 1 + 1 + 1 ≤ k ∧ k < w1.heap.size) := fun k hk => hk.elim (fun e => T2.a.lt k e) (fun e => T2.b.lt k e)
  have HBW := hide BW
  have p2 : w1.cell? ⟨w.heap.size, 2, none⟩ = some (.slice a3 is.length c3) := K0.cell 2
  have q0 : w1.cell? ⟨w.heap.size + 1 + 1, 0, none⟩ = some (.slice none 0 0) := K2.cell 0
  have q1 : w1.cell? ⟨w.heap.size + 1 + 1, 1, none⟩ = some (.slice none 0 0) := K2.cell 1
  have z0 := K2.frozen 0
  have z1 := K2.frozen 1
  have HK0 := hide K0
  have HK1 := hide K1
  have HK2 := hide K2
  clear T1 T2 B1 BW K0 K1 K2
  go_wp2_with fail
  have BX : Below w.heap.size w ((w1.setCell ⟨w.heap.size + 1 + 1, 0, none⟩ (.slice e1 xs.length f1)).setCell ⟨w.heap.size + 1 + 1, 1, none⟩ (.slice e2 ys.length f2)) := (HBW.out.setCell (by simp; omega) _).setCell (by simp; omega) _
  refine (toInoS_any _ is _ (H.out.i.below BX (Nat.le_refl _)) HG.out.i HG.out.p).mono ?_
  rintro e w2 ⟨i1, ti, rfl, G1, B2⟩
  obtain ⟨e3, f3, rfl⟩ := G1.form
  have BW2 := BX.trans (B2.mono BX.size)
  have K0 := ((HK0.out.other (k := 0) (g := w.heap.size + 1 + 1) (by omega) (.slice e1 xs.length f1)).other (k := 1) (g := w.heap.size + 1 + 1) (by omega) (.slice e2 ys.length f2)).over B2
  have K1 := ((HK1.out.other (k := 0) (g := w.heap.size + 1 + 1) (by omega) (.slice e1 xs.length f1)).other (k := 1) (g := w.heap.size + 1 + 1) (by omega) (.slice e2 ys.length f2)).over B2
  have K2 : AtC w2 (w.heap.size + 1 + 1) 35 #[.slice e1 xs.length f1, .slice e2 ys.length f2, .slice none 0 0, .slice none 0 0] := ((HK2.out.set 0 (.slice e1 xs.length f1)).set 1 (.slice e2 ys.length f2)).over B2
  have T2 : Two w2 (w.heap.size + 1 + 1 + 1) (.slice e1 xs.length f1) (.slice e2 ys.length f2) xs ys := ((HT.out.set_other (by omega) _).set_other (by omega) _).below B2 (Nat.le_refl _)
  have G2 : GO KI w2 (fun k => w1.heap.size ≤ k ∧ k < w2.heap.size) (.slice e3 is.length f3) ti is := (G1.bound).mono fun k hk => ⟨by have := hk.1; simpa using this, hk.2⟩
  have hs1 : w1.heap.size ≤ w2.heap.size := by have := B2.size; simpa using this
  have HS0 := hide (And.intro hs1 K1.lt)
  have hlt3 : w.heap.size + 1 + 1 < w1.heap.size := HK2.out.lt
  have HT2 := hide T2
  have HG2 := hide G2
  have HBW2 := hide BW2
  have p3 : w2.cell? ⟨w.heap.size, 3, none⟩ = some (.slice a4 bs.length c4) := K0.cell 3
  have q2 : w2.cell? ⟨w.heap.size + 1 + 1, 2, none⟩ = some (.slice none 0 0) := K2.cell 2
  have z2 := K2.frozen 2
  have HL := hide hlt3
  have HK1 := hide K1
  have HK2 := hide K2
  clear G1 G2 B2 BX BW2 K0 K1 K2 T2 hs1 hlt3 p2 q0 q1 z0 z1 HBW HT HK0
  go_wp2_with fail
  have BX : Below w.heap.size w (w2.setCell ⟨w.heap.size + 1 + 1, 2, none⟩ (.slice e3 is.length f3)) := HBW2.out.setCell (by simp; omega) _
  refine (toBlkS_any _ bs _ (H.out.k.below BX (Nat.le_refl _)) HG.out.b (fun j hj => (HG.out.s j hj).1)).mono ?_
  rintro e w3 ⟨b1, tb, rfl, G1, B3⟩
  obtain ⟨e4, f4, rfl⟩ := G1.form
  have BW3 := BX.trans (B3.mono BX.size)
  have K1 := (HK1.out.other (k := 2) (g := w.heap.size + 1 + 1) (by omega) (.slice e3 is.length f3)).over B3
  have K2 : AtC w3 (w.heap.size + 1 + 1) 35 #[.slice e1 xs.length f1, .slice e2 ys.length f2, .slice e3 is.length f3, .slice none 0 0] := (HK2.out.set 2 (.slice e3 is.length f3)).over B3
  have T3 : Two w3 (w.heap.size + 1 + 1 + 1) (.slice e1 xs.length f1) (.slice e2 ys.length f2) xs ys := (HT2.out.set_other (by omega) _).below B3 (Nat.le_refl _)
  have G3 : GO KI w3 (fun k => w1.heap.size ≤ k ∧ k < w2.heap.size) (.slice e3 is.length f3) ti is := (HG2.out.setCell_other (fun e => by have := HL.out; omega) _).below B3 (Nat.le_refl _)
  have G4 : GO KB w3 (fun k => w2.heap.size ≤ k) (.slice e4 bs.length f4) tb bs := G1.mono fun k hk => by simpa using hk
  have HT3 := hide T3
  have HG3 := hide G3
  have HG4 := hide G4
  have HBW3 := hide BW3
  have q0 : w3.cell? ⟨w.heap.size + 1 + 1, 0, none⟩ = some (.slice e1 xs.length f1) := K2.cell 0
  have q1 : w3.cell? ⟨w.heap.size + 1 + 1, 1, none⟩ = some (.slice e2 ys.length f2) := K2.cell 1
  have q2 : w3.cell? ⟨w.heap.size + 1 + 1, 2, none⟩ = some (.slice e3 is.length f3) := K2.cell 2
  have q3 : w3.cell? ⟨w.heap.size + 1 + 1, 3, none⟩ = some (.slice none 0 0) := K2.cell 3
  have z3 := K2.frozen 3
  have r0 : w3.cell? ⟨w.heap.size + 1, 0, none⟩ = some (.slice none 0 0) := K1.cell 0
  have r1 : w3.cell? ⟨w.heap.size + 1, 1, none⟩ = some (.slice none 0 0) := K1.cell 1
  have r2 : w3.cell? ⟨w.heap.size + 1, 2, none⟩ = some (.slice none 0 0) := K1.cell 2
  have r3 : w3.cell? ⟨w.heap.size + 1, 3, none⟩ = some (.slice none 0 0) := K1.cell 3
  have y0 := K1.frozen 0
  have y1 := K1.frozen 1
  have y2 := K1.frozen 2
  have y3 := K1.frozen 3
  clear G1 G3 G4 B3 BX BW3 K1 K2 T3 p3 z2 HBW2 HT2 HG2 HK1 HK2
  go_wp2
  refine bodyPost_ret (v := .agg #[.slice e1 xs.length f1, .slice e2 ys.length f2, .slice e3 is.length f3, .slice e4 bs.length f4]) (by simp [results, go_sem, r0, r1, r2, r3]) rfl ⟨_, _, _, _, rfl, ?_, ?_⟩
  · have hL := HL.out
    have hS := HS0.out
    have T4 : Two w3 0 (.slice e1 xs.length f1) (.slice e2 ys.length f2) xs ys := HT3.out.base_le (Nat.zero_le _)
    refine (DO.of_heap (w := w3) (S := fun k => w.heap.size + 1 + 1 + 1 ≤ k) ⟨fun k => w.heap.size + 1 + 1 + 1 ≤ k ∧ k < w1.heap.size, _, _, ti, tb, T4, HLU.out, HG3.out, HG4.out, fun k hk => ⟨fun e => by omega, fun e => by omega⟩, fun k hk e => by omega, fun k hk => by omega⟩ fun k hk _ => ?_).mono fun k hk => by omega
    have n1 : k ≠ w.heap.size + 1 := by omega
    have n2 : k ≠ w.heap.size + 1 + 1 := by omega
    exact ((((heap_setCell_other _ ⟨w.heap.size + 1, 3, none⟩ k _ n1).trans (heap_setCell_other _ ⟨w.heap.size + 1, 2, none⟩ k _ n1)).trans (heap_setCell_other _ ⟨w.heap.size + 1, 1, none⟩ k _ n1)).trans (heap_setCell_other _ ⟨w.heap.size + 1, 0, none⟩ k _ n1)).trans (heap_setCell_other _ ⟨w.heap.size + 1 + 1, 3, none⟩ k _ n2)
  · exact ((((HBW3.out.setCell (by simp; omega) _).setCell (by simp) _).setCell (by simp) _).setCell (by simp) _).setCell (by simp) _
end Go.Proofs.YtljooldjcefkoaaGreat
/- A disk that comes in as an argument, opened: its lists and texts. -/
namespace Go.Proofs.YtljooldjcefkoaaGreat.open_
open Go.ChangeShapes Go.WideShapes Go.ChangeAt Go.RowKit Kit Go.Joins
set_option linter.unusedVariables false
variable {H : Type} {enc : TypeId × Value → H} {W : World}
theorem open_three {P : Program} {α : Type} [Inhabited α] (K : Kd α) (big : α → Prop) {t e : TypeId} {f0 f1 f2 : Field} {fuel : Nat} {c : Value} {y : DataW H × List MemPlace} (ht : P.underlying t = some (.slice e)) (he : P.underlying e = some (.struct #[f0, f1, f2])) (ce : P.cellsOf e = 3)
    (o0 : f0.offset = 0) (o1 : f1.offset = 1) (o2 : f2.offset = 2) (k0 : P.cellsOf f0.type = 1) (k1 : P.cellsOf f1.type = 1) (k2 : P.cellsOf f2.type = 1)
    (each : ∀ n v0 v1 v2 y0 y1 y2, DataW.trod enc P W 0 (fun _ => true) true n f0.type [v0] = some y0 → DataW.trod enc P W 0 (fun _ => true) true n f1.type [v1] = some y1 → DataW.trod enc P W 0 (fun _ => true) true n f2.type [v2] = some y2 → ∃ x, K.R W (v0, v1, v2) x ∧ big x)
    (h : DataW.trod enc P W 0 (fun _ => true) true fuel t [c] = some y) : ∃ xs : List α, R3 K W c xs ∧ xs.length ≤ maxLen ∧ ∀ (j : Nat) (h : j < xs.length), big xs[j] := by
  rcases Go.Deep.open_slice ht h with ⟨hcs, _⟩ | ⟨a, len, cap, m, n, D, Pl, hcs, hb, hl, hm, hmm, _, hx⟩
  · simp at hcs
    subst hcs
    exact ⟨[], ⟨none, 0, rfl, Nat.le_refl _, fun j hj => by simp at hj⟩, by simp, fun j hj => by simp at hj⟩
  · simp at hcs
    subst hcs
    have hlm : len ≤ m := by simp at hmm; omega
    have key : ∀ i, i < len → ∃ q : V3 × α, W.cell? (a.add (i * 3)) = some q.1.1 ∧ W.cell? (a.add (i * 3 + 1)) = some q.1.2.1 ∧ W.cell? (a.add (i * 3 + 2)) = some q.1.2.2 ∧ K.R W q.1 q.2 ∧ big q.2 := by
      intro i hi
      obtain ⟨cs', h1, h2⟩ := hx i (by omega)
      rw [ce] at h1
      obtain ⟨_, hlen, hcell⟩ := World.cells?_some h1
      obtain ⟨xs, k, hk, hxy, _, hxl, hf⟩ := DataW.trod_struct he h2
      match xs, hxl, cs', hlen with
      | [y0, y1, y2], _, [v0, v1, v2], _ =>
        have g0 := hf 0 f0 rfl
        have g1 := hf 1 f1 rfl
        have g2 := hf 2 f2 rfl
        simp [o0, o1, o2, k0, k1, k2] at g0 g1 g2
        have e0 := hcell 0 (by omega)
        have e1 := hcell 1 (by omega)
        have e2 := hcell 2 (by omega)
        rw [Go.Deep.add_add] at e0 e1 e2
        obtain ⟨x, hR, hbig⟩ := each k v0 v1 v2 y0 y1 y2 g0 g1 g2
        exact ⟨((v0, v1, v2), x), by simpa using e0, by simpa using e1, by simpa using e2, hR, hbig⟩
    obtain ⟨q, hq⟩ := Go.Deep.choose_lt key
    obtain ⟨b, off, spot⟩ := a
    have ha : spot = none → ∀ k, (⟨b, off, spot⟩ : Addr).add k = ⟨b, off + k, none⟩ := fun e k => by subst e; cases k <;> simp [Addr.add]
    refine ⟨(List.range len).map fun i => (q i).2, ⟨some ⟨b, off, spot⟩, cap, by simp, by simpa using hl, fun j hj => ?_⟩, by simp; omega, fun j hj => ?_⟩
    · have hj' : j < len := by simpa using hj
      have hspot : spot = none := by
        have := World.cell?_spot (hq 0 (by omega)).1
        simpa [Addr.add] using this
      obtain ⟨c0, c1, c2, hR, _⟩ := hq j hj'
      rw [ha hspot] at c0 c1 c2
      exact ⟨b, off, (q j).1, by rw [hspot], block_lt_of_cell c0, c0, by rw [Nat.add_assoc]; exact c1, by rw [Nat.add_assoc]; exact c2, by simpa using hR⟩
    · have hj' : j < len := by simpa using hj
      simpa using (hq j hj').2.2.2.2
theorem flags_of {w : World} {a : Addr} {len cap : Nat} {B : Nat → Bool} (h1 : len ≤ cap) (h : ∀ i, i < cap → w.cell? (a.add i) = some (.bool (B i))) : RFl w (.slice (some a) len cap) ((List.range len).map B) := by
  refine ⟨some a, cap, by simp, fun j hj => ?_⟩
  have hj' : j < len := by simpa using hj
  obtain ⟨b, off, spot⟩ := a
  have hspot : spot = none := by simpa [Addr.add] using World.cell?_spot (h 0 (by omega))
  subst hspot
  have ha : (⟨b, off, none⟩ : Addr).add j = ⟨b, off + j, none⟩ := by cases j <;> simp [Addr.add]
  have hc := h j (by omega)
  rw [ha] at hc
  refine ⟨b, off, rfl, block_lt_of_cell hc, ?_⟩
  rw [hc]
  simp
theorem flags_open {n : Nat} {v : Value} {y : DataW H × List MemPlace} (h : DataW.trod enc Tryz.prog W 0 (fun _ => true) true n 22 [v] = some y) : ∃ xs : List Bool, RFl W v xs ∧ xs.length ≤ maxLen := by
  rcases Go.Deep.open_bools Tryz.underlying22 Tryz.underlying4 (by kernel_rfl) h with ⟨hcs, _⟩ | ⟨x, l, c, B, hcs, _, hl, hm, _, hcell⟩
  · simp at hcs
    subst hcs
    exact ⟨[], ⟨none, 0, rfl, fun j hj => by simp at hj⟩, by simp⟩
  · simp at hcs
    subst hcs
    exact ⟨_, flags_of hl hcell, by simp; omega⟩
theorem ints_of {w : World} {a : Addr} {len : Nat} {cap : Nat} {zs : List Int} (h1 : len ≤ zs.length) (h : ∀ i, i < zs.length → w.cell? (a.add i) = some (.int .i64 (zs.getD i 0))) : RInts w (.slice (some a) len cap) (zs.take len) := by
  refine ⟨some a, cap, by simp; omega, fun j hj => ?_⟩
  have hj' : j < len := by simp at hj; omega
  obtain ⟨b, off, spot⟩ := a
  have hspot : spot = none := by simpa [Addr.add] using World.cell?_spot (h 0 (by omega))
  subst hspot
  have ha : (⟨b, off, none⟩ : Addr).add j = ⟨b, off + j, none⟩ := by cases j <;> simp [Addr.add]
  have hc := h j (by omega)
  rw [ha] at hc
  refine ⟨b, off, rfl, block_lt_of_cell hc, ?_⟩
  rw [hc]
  simp [List.getD, List.getElem?_eq_getElem (show j < zs.length by omega)]
theorem ints_open {n : Nat} {v : Value} {y : DataW H × List MemPlace} (h : DataW.trod enc Tryz.prog W 0 (fun _ => true) true n 42 [v] = some y) : ∃ xs : List Int, RInts W v xs ∧ xs.length ≤ maxLen := by
  rcases open_ints Tryz.underlying42 Tryz.underlying3 (by kernel_rfl) h with ⟨hcs, _⟩ | ⟨x, l, c, zs, hcs, _, hl, hm, hz, _, hcell, hwz⟩
  · simp at hcs
    subst hcs
    exact ⟨[], ⟨none, 0, rfl, fun j hj => by simp at hj⟩, by simp⟩
  · simp at hcs
    subst hcs
    have hle : l ≤ zs.length := by simp at hz; omega
    exact ⟨zs.take l, ints_of hle hcell, by simp; omega⟩
/-- The text of a value. -/
def strOf : Value → ByteArray
  | .string s => s
  | _ => ⟨#[]⟩
/-- The slots that cells tell. -/
def slotsOf (V0 V1 : Nat → Value) (len : Nat) : List Sl := (List.range len).map fun i => (strOf (V0 i), intOf (V1 i))
theorem slots_of {w : World} {a : Addr} {len cap : Nat} {V0 V1 : Nat → Value} (hc : len ≤ cap) (h0 : ∀ i, i < len → w.cell? (a.add (i * 2)) = some (V0 i)) (h1 : ∀ i, i < len → w.cell? (a.add (i * 2 + 1)) = some (V1 i))
    (hs : ∀ i, i < len → ∃ s : ByteArray, V0 i = .string s ∧ s.size ≤ maxLen) (hz : ∀ i, i < len → ∃ z : Int, V1 i = .int .i64 z) :
    RSl w (.slice (some a) len cap) (slotsOf V0 V1 len) ∧ ∀ (j : Nat) (h : j < (slotsOf V0 V1 len).length), (slotsOf V0 V1 len)[j].1.size ≤ maxLen := by
  have hlen : (slotsOf V0 V1 len).length = len := by simp [slotsOf]
  refine ⟨⟨some a, cap, by rw [hlen], by rw [hlen]; exact hc, fun j hj => ?_⟩, fun j hj => ?_⟩
  · rw [hlen] at hj
    obtain ⟨s, e0, _⟩ := hs j hj
    obtain ⟨z, e1⟩ := hz j hj
    have c0 := h0 j hj
    have c1 := h1 j hj
    obtain ⟨b, off, spot⟩ := a
    have hspot : spot = none := by
      have := World.cell?_spot (h0 0 (by omega))
      simpa [Addr.add] using this
    subst hspot
    have ha : ∀ k, (⟨b, off, none⟩ : Addr).add k = ⟨b, off + k, none⟩ := fun k => by cases k <;> simp [Addr.add]
    rw [ha] at c0 c1
    refine ⟨b, off, rfl, block_lt_of_cell c0, ?_, ?_⟩
    · rw [c0]; simp [slotsOf, e0, strOf]
    · rw [show off + j * 2 + 1 = off + (j * 2 + 1) by omega, c1]; simp [slotsOf, e1, intOf]
  · rw [hlen] at hj
    obtain ⟨s, e0, e1⟩ := hs j hj
    simp [slotsOf, e0, strOf, e1]
theorem slots_open {n : Nat} {v : Value} {y : DataW H × List MemPlace} (h : DataW.trod enc Tryz.prog W 0 (fun _ => true) true n 65 [v] = some y) : ∃ xs : List Sl, RSl W v xs ∧ xs.length ≤ maxLen ∧ ∀ (j : Nat) (h : j < xs.length), xs[j].1.size ≤ maxLen := by
  rcases Go.Deep.open_slice_pairs Tryz.underlying65 Tryz.underlying114 (by kernel_rfl) rfl rfl (by kernel_rfl) (by kernel_rfl) h with ⟨hcs, _⟩ | ⟨a, len, cap, m2, n2, V0, V1, D0, D1, P0, P1, hcs, -, hlc, hcm, hm2, -, hcell⟩
  · simp at hcs
    subst hcs
    exact ⟨[], ⟨none, 0, rfl, Nat.le_refl _, fun j hj => by simp at hj⟩, by simp, fun j hj => by simp at hj⟩
  · simp at hcs
    subst hcs
    have hlm : len ≤ m2 := by simp at hm2; omega
    have key := slots_of (w := W) (a := a) (len := len) (cap := cap) (V0 := V0) (V1 := V1) hlc (fun i hi => (hcell i (by omega)).1) (fun i hi => (hcell i (by omega)).2.1)
      (fun i hi => by obtain ⟨s, e, -, hs⟩ := DataW.trod_string Tryz.underlying9 (hcell i (by omega)).2.2.1; simp at e; exact ⟨s, e, hs⟩)
      (fun i hi => by obtain ⟨z, e, -, -⟩ := DataW.trod_int Tryz.underlying3 (hcell i (by omega)).2.2.2; simp at e; exact ⟨z, e⟩)
    exact ⟨slotsOf V0 V1 len, key.1, by simp [slotsOf]; omega, key.2⟩
theorem inos_open {n : Nat} {v : Value} {y : DataW H × List MemPlace} (h : DataW.trod enc Tryz.prog W 0 (fun _ => true) true n 25 [v] = some y) : ∃ xs : List Ino, R3 KI W v xs ∧ xs.length ≤ maxLen ∧ ∀ (j : Nat) (h : j < xs.length), xs[j].2.2.length ≤ maxLen := by
  refine open_three KI (fun x => x.2.2.length ≤ maxLen) Tryz.underlying25 Tryz.underlying63 (by kernel_rfl) rfl rfl rfl (by kernel_rfl) (by kernel_rfl) (by kernel_rfl) ?_ h
  intro n v0 v1 v2 y0 y1 y2 h0 h1 h2
  obtain ⟨x0, e0, -⟩ := DataW.trod_int Tryz.underlying3 h0
  obtain ⟨x1, e1, -⟩ := DataW.trod_int Tryz.underlying3 h1
  obtain ⟨xs, hx, hl⟩ := ints_open h2
  simp at e0 e1
  exact ⟨(x0, x1, xs), ⟨e0, e1, hx⟩, hl⟩
theorem blks_open {n : Nat} {v : Value} {y : DataW H × List MemPlace} (h : DataW.trod enc Tryz.prog W 0 (fun _ => true) true n 26 [v] = some y) : ∃ xs : List Blk, R3 KB W v xs ∧ xs.length ≤ maxLen ∧ ∀ (j : Nat) (h : j < xs.length), bigB maxLen xs[j] := by
  refine open_three KB (bigB maxLen) Tryz.underlying26 Tryz.underlying67 (by kernel_rfl) rfl rfl rfl (by kernel_rfl) (by kernel_rfl) (by kernel_rfl) ?_ h
  intro n v0 v1 v2 y0 y1 y2 h0 h1 h2
  obtain ⟨x0, e0, -⟩ := DataW.trod_bool Tryz.underlying4 h0
  obtain ⟨xs, hx, hl, hb⟩ := slots_open h1
  obtain ⟨x2, e2, -, hx2⟩ := DataW.trod_string Tryz.underlying9 h2
  simp at e0 e2
  exact ⟨(x0, xs, x2), ⟨e0, hx, e2⟩, hl, hb, hx2⟩
set_option maxRecDepth 100000 in
/-- A disk, opened. -/
theorem disk_open {r : Reach} {b0 : Nat} {v : Value} {d : DataW H} {p : List MemPlace} (hv : Value.okWide Tryz.prog W r b0 28 v) (h : DataW.Trod enc Tryz.prog W 0 (fun _ => true) true 28 v d p) :
    ∃ (u v' iv bv : Value) (xs ys : List Bool) (is : List Ino) (bs : List Blk), v = .agg #[u, v', iv, bv] ∧ DR W u v' iv bv xs ys is bs ∧ Big maxLen xs ys is bs := by
  obtain ⟨cs, rfl, hsz⟩ := okWide_struct Tryz.underlying28 hv
  have hC : Tryz.prog.cellsOf 28 = 4 := by kernel_rfl
  obtain ⟨c0, c1, c2, c3, rfl⟩ := array4 (hsz.trans hC)
  obtain ⟨fuel, hf⟩ := h
  obtain ⟨y0, y1, y2, n, hx, _, h0, h1, h2⟩ := Go.Deep.trod_struct3 Tryz.underlying28 hf
  have k0 : Tryz.prog.cellsOf 24 = 2 := by kernel_rfl
  have k1 : Tryz.prog.cellsOf 25 = 1 := by kernel_rfl
  have k2 : Tryz.prog.cellsOf 26 = 1 := by kernel_rfl
  have k3 : Tryz.prog.cellsOf 22 = 1 := by kernel_rfl
  simp [Value.cells, k0, k1, k2] at h0 h1 h2
  obtain ⟨z0, z1, m, hz, _, g0, g1⟩ := trod_struct2 Tryz.underlying24 h0
  simp [k3] at g0 g1
  obtain ⟨xs, hx1, hx2⟩ := flags_open g0
  obtain ⟨ys, hy1, hy2⟩ := flags_open g1
  obtain ⟨is, hi1, hi2, hi3⟩ := inos_open h1
  obtain ⟨bs, hb1, hb2, hb3⟩ := blks_open h2
  exact ⟨c0, c1, c2, c3, xs, ys, is, bs, rfl, ⟨hx1, hy1, hi1, hb1⟩, ⟨hx2, hy2, hi2, hi3, hb2, hb3⟩⟩
end Go.Proofs.YtljooldjcefkoaaGreat.open_
