/- Texts of the proof, bundled: Imd, Sa, Ml, Md, Bg, Qs, LawMa. -/
import Derived.Laws.EntriesVeiled
import Derived.Deep.RegionHeld3
import Derived.Test.YtbebgnknjoclkaaGreatU05
import Derived.Test.YtbebgnknjoclkaaGreatU04
import Derived.Test.YtbebgnknjoclkaaGreatU02
import Derived.Test.YtbebgnknjoclkaaGreatU03
import Derived.Test.YtbebgnknjoclkaaGreatU01
/- impl.mended and impl.MendAll by their contracts. -/
namespace Go.Proofs.YtbebgnknjoclkaaGreat
open Go.RowKit Kit
/-- A disk in parts. -/
abbrev Dk4 := List Bool × List Bool × List Ino × List Blk
/-- Behind each pass. -/
def mSt (xs ys : List Bool) (is : List Ino) (bs : List Blk) : Nat → Dk4
  | 0 => (xs, ys, is, bs)
  | 1 => (xs, ys, mendP is bs, bs)
  | 2 => (xs, ys, mendP is bs, mendN (mendP is bs) bs)
  | _ => (fB (mendP is bs) (mendN (mendP is bs) bs), fI (mendP is bs) (mendN (mendP is bs) bs), restL (mendP is bs) (mendN (mendP is bs) bs), mendN (mendP is bs) bs)
def mendD (xs ys : List Bool) (is : List Ino) (bs : List Blk) : Dk4 := if diskOk xs ys is bs = true then mSt xs ys is bs 3 else (xs, ys, is, bs)
theorem eg49 : ∀ args w, (callFunc 49 args).run Tryz.prog w = .ok (.enter 49 args) w := enters_of Tryz.func49 (by kernel_rfl) rfl
theorem eg50 : ∀ args w, (callFunc 50 args).run Tryz.prog w = .ok (.enter 50 args) w := enters_of Tryz.func50 (by kernel_rfl) rfl
theorem eg51 : ∀ args w, (callFunc 51 args).run Tryz.prog w = .ok (.enter 51 args) w := enters_of Tryz.func51 (by kernel_rfl) rfl
/-- A mending under way. -/
structure MS (w wr : World) (b B fb : Nat) (A3 A4 : Value) (D : Array Value) (st : Dk4) : Prop where
  x : ∃ u v, AtC wr b 86 #[u, v, A3, A4] ∧ DO wr (fun k => B ≤ k ∧ k ≠ b) u v A3 A4 st.1 st.2.1 st.2.2.1 st.2.2.2
  f : AtC wr fb 84 #[.func (.func 49) #[] #[], .func (.func 50) #[] #[], .func (.func 51) #[] #[]]
  r : AtC wr (w.heap.size + 1) 34 noD
  c : Below w.heap.size w wr
  hB : w.heap.size + 2 < B
  hf : fb < B
  hb : B ≤ b
  nn : B ≤ wr.heap.size
theorem MS.chg {w wr wr' : World} {b B fb : Nat} {A3 A4 : Value} {D : Array Value} {st st' : Dk4} (h : MS w wr b B fb A3 A4 D st) (hc : Chg (fun k => B ≤ k) wr wr') (hx : ∃ u v, AtC wr' b 86 #[u, v, A3, A4] ∧ DO wr' (fun k => B ≤ k ∧ k ≠ b) u v A3 A4 st'.1 st'.2.1 st'.2.2.1 st'.2.2.2) : MS w wr' b B fb A3 A4 D st' := by
  have h1 := h.hB
  have h2 := h.hf
  have h3 := h.hb
  exact ⟨hx, (hc.block fb h.f.lt (fun e => by omega)).trans h.f, (hc.block _ h.r.lt (fun e => by omega)).trans h.r, h.c.trans (hc.below h.c.size (fun k hk => by omega)), h.hB, h.hf, h.hb, Nat.le_trans h.nn hc.size⟩
theorem mSt_ok {xs ys : List Bool} {is : List Ino} {bs : List Blk} (h : diskOk xs ys is bs = true) : diskOk xs ys (mendP is bs) bs = true ∧ diskOk xs ys (mendP is bs) (mendN (mendP is bs) bs) = true := ⟨mendP_ok h, mendN_ok (mendP_ok h)⟩
set_option maxRecDepth 100000 in
set_option maxHeartbeats 6400000 in
/-- With three passes, or none. -/
theorem mended_any (n : Nat) (hn : n = 0 ∨ n = 3) (lv : Value) (u v iv bv : Value) (xs ys : List Bool) (is : List Ino) (bs : List Blk) (w : World) (h : DR w u v iv bv xs ys is bs) (hG : Big 1048576 xs ys is bs) (hl : RInts w lv (([0, 1, 2] : List Int).take n)) (hO : n = 3 → diskOk xs ys is bs = true) :
    Calls Tryz.prog 21 #[.agg #[u, v, iv, bv], lv] w fun e w' => ∃ u' v' i' b', e = .returned (.agg #[u', v', i', b']) ∧ DO w' (fun k => w.heap.size ≤ k) u' v' i' b' (mSt xs ys is bs n).1 (mSt xs ys is bs n).2.1 (mSt xs ys is bs n).2.2.1 (mSt xs ys is bs n).2.2.2 ∧ Below w.heap.size w w' := by
  obtain ⟨a1, c1, a2, c2, a3, c3, a4, c4, rfl, rfl, rfl, rfl⟩ := h.form
  have HH := hide h
  have HG := hide hG
  have HO := hide hO
  have HN3 := hide hn
  obtain ⟨la, lc, rfl, hlc⟩ := hl
  have HLC := hide hlc
  have hll : (([0, 1, 2] : List Int).take n).length = n := by rcases hn with rfl | rfl <;> rfl
  rw [hll] at *
  obtain ⟨W0, hW0⟩ : ∃ W, ((w.alloc (.cells #[.slice a1 xs.length c1, .slice a2 ys.length c2, .slice a3 is.length c3, .slice a4 bs.length c4] 34)).alloc (.cells #[.slice none 0 0, .slice none 0 0, .slice none 0 0, .slice none 0 0] 34)) = W := ⟨_, rfl⟩
  obtain ⟨W1, hW1⟩ : ∃ W, W0.alloc (.cells #[.func (.func 49) #[] #[], .func (.func 50) #[] #[], .func (.func 51) #[] #[]] 84) = W := ⟨_, rfl⟩
  have H1 : Hid (Below w.heap.size w W1 ∧ AtC W1 w.heap.size 34 #[.slice a1 xs.length c1, .slice a2 ys.length c2, .slice a3 is.length c3, .slice a4 bs.length c4] ∧ AtC W1 (w.heap.size + 1) 34 noD ∧ AtC W1 (w.heap.size + 2) 84 #[.func (.func 49) #[] #[], .func (.func 50) #[] #[], .func (.func 51) #[] #[]] ∧ W1.heap.size = w.heap.size + 3) := by
    rw [← hW1, ← hW0]
    have q := AtC.new (w.alloc (.cells #[.slice a1 xs.length c1, .slice a2 ys.length c2, .slice a3 is.length c3, .slice a4 bs.length c4] 34)) 34 #[.slice none 0 0, .slice none 0 0, .slice none 0 0, .slice none 0 0]
    rw [World.size_alloc] at q
    have r := AtC.new ((w.alloc (.cells #[.slice a1 xs.length c1, .slice a2 ys.length c2, .slice a3 is.length c3, .slice a4 bs.length c4] 34)).alloc (.cells #[.slice none 0 0, .slice none 0 0, .slice none 0 0, .slice none 0 0] 34)) 84 #[.func (.func 49) #[] #[], .func (.func 50) #[] #[], .func (.func 51) #[] #[]]
    rw [World.size_alloc, World.size_alloc] at r
    exact ⟨(((Below.refl _ w).alloc (Nat.le_refl _) _).alloc (by simp) _).alloc (by simp; omega) _, ((AtC.new w 34 _).alloc _).alloc _, q.alloc _, r, by simp⟩
  have x0 : W1.cell? ⟨w.heap.size, 0, none⟩ = some (.slice a1 xs.length c1) := H1.out.2.1.cell 0
  have x1 : W1.cell? ⟨w.heap.size, 1, none⟩ = some (.slice a2 ys.length c2) := H1.out.2.1.cell 1
  have x2 : W1.cell? ⟨w.heap.size, 2, none⟩ = some (.slice a3 is.length c3) := H1.out.2.1.cell 2
  have x3 : W1.cell? ⟨w.heap.size, 3, none⟩ = some (.slice a4 bs.length c4) := H1.out.2.1.cell 3
  have hsz0 : W0.heap.size = w.heap.size + 2 := by rw [← hW0]; simp
  clear h hG hO hlc hll
  go_enter Tryz.func21, Tryz.ntmps21
  go_wp2_with fail
  refine (newDisk_any (.slice a1 xs.length c1) (.slice a2 ys.length c2) (.slice a3 is.length c3) (.slice a4 bs.length c4) xs ys is bs W1 (HH.out.below H1.out.1 (Nat.le_refl _)) HG.out).mono ?_
  rintro e w2 ⟨u1, u2, u3, u4, rfl, O2, B2⟩
  obtain ⟨p1, q1, p2, q2, p3, q3, p4, q4, rfl, rfl, rfl, rfl⟩ := O2.dr.form
  obtain ⟨b, hb⟩ : ∃ n, w2.heap.size = n := ⟨_, rfl⟩
  obtain ⟨W3, hW3⟩ : ∃ W, w2.alloc (.cells #[.slice p1 xs.length q1, .slice p2 ys.length q2, .slice p3 is.length q3, .slice p4 bs.length q4] 86) = W := ⟨_, rfl⟩
  have H3 : Hid (MS w W3 b (w.heap.size + 3) (w.heap.size + 2) (.slice p3 is.length q3) (.slice p4 bs.length q4) #[.slice a1 xs.length c1, .slice a2 ys.length c2, .slice a3 is.length c3, .slice a4 bs.length c4] (mSt xs ys is bs 0)) := by
    have b1 := H1.out.1.trans (B2.mono H1.out.1.size)
    have s1 := B2.size
    rw [H1.out.2.2.2.2, hb] at s1
    rw [← hW3]
    refine ⟨⟨_, _, by rw [← hb]; exact AtC.new w2 86 _, ?_⟩, (H1.out.2.2.2.1.over B2).alloc _, (H1.out.2.2.1.over B2).alloc _, b1.alloc b1.size _, by omega, by omega, s1, by rw [World.size_alloc]; omega⟩
    obtain ⟨ti, tb, L1⟩ := O2.dl
    have L2 := L1.bound.do_.mono (S' := fun k => w.heap.size + 3 ≤ k ∧ k ≠ b) fun k hk => ⟨by rw [← H1.out.2.2.2.2]; exact hk.1, by have := hk.2; omega⟩
    exact L2.alloc _
  clear O2 B2 hW0 hW1 x0 x1 x2 x3 H1
  go_wp2_with fail
  go_loopw [15] (fun kv wr => ∃ q : Nat, q ≤ n ∧ kv = .int .i64 q ∧ Hid (MS w wr b (w.heap.size + 3) (w.heap.size + 2) (.slice p3 is.length q3) (.slice p4 bs.length q4) #[.slice a1 xs.length c1, .slice a2 ys.length c2, .slice a3 is.length c3, .slice a4 bs.length c4] (mSt xs ys is bs q))) (fun kv _ => n - (intOf kv).toNat)
  case atStart => exact ⟨0, Nat.zero_le _, rfl, H3.out⟩
  case round =>
    obtain ⟨q, hq, rfl, HR⟩ := hrel
    clear H3 hW3 hb
    have q0 : (0 : Int) ≤ (q : Int) := by omega
    by_cases hlt : q < n
    rotate_left
    · have q1 : ¬ ((q : Int) < (n : Int)) := by omega
      obtain rfl : q = n := by omega
      obtain ⟨u5, v5, A5, D5⟩ := HR.out.x
      obtain ⟨r1, s1, r2, s2, r3, s3, r4, s4, e1, e2, -, -⟩ := D5.dr.form
      subst e1 e2
      have o0 := A5.cell 0
      have o1 := A5.cell 1
      have o2 := A5.cell 2
      have o3 := A5.cell 3
      simp only [List.getElem?_toArray, List.getElem?_cons_zero, List.getElem?_cons_succ] at o0 o1 o2 o3
      have z0 : wr.cell? ⟨w.heap.size + 1, 0, none⟩ = some (.slice none 0 0) := HR.out.r.cell 0
      have z1 : wr.cell? ⟨w.heap.size + 1, 1, none⟩ = some (.slice none 0 0) := HR.out.r.cell 1
      have z2 : wr.cell? ⟨w.heap.size + 1, 2, none⟩ = some (.slice none 0 0) := HR.out.r.cell 2
      have z3 : wr.cell? ⟨w.heap.size + 1, 3, none⟩ = some (.slice none 0 0) := HR.out.r.cell 3
      have f0 := HR.out.r.frozen 0
      have f1 := HR.out.r.frozen 1
      have f2 := HR.out.r.frozen 2
      have f3 := HR.out.r.frozen 3
      have hne : ¬ b = w.heap.size + 1 := by have := HR.out.hB; have := HR.out.hb; omega
      have hne2 : ¬ w.heap.size + 1 = b := by have := HR.out.hB; have := HR.out.hb; omega
      have HF : Hid (∀ y0 y1 y2 y3 : Value, DO ((((wr.setCell ⟨w.heap.size + 1, 0, none⟩ y0).setCell ⟨w.heap.size + 1, 1, none⟩ y1).setCell ⟨w.heap.size + 1, 2, none⟩ y2).setCell ⟨w.heap.size + 1, 3, none⟩ y3) (fun k => w.heap.size ≤ k) (.slice r1 (mSt xs ys is bs q).1.length s1) (.slice r2 (mSt xs ys is bs q).2.1.length s2) (.slice p3 is.length q3) (.slice p4 bs.length q4) (mSt xs ys is bs q).1 (mSt xs ys is bs q).2.1 (mSt xs ys is bs q).2.2.1 (mSt xs ys is bs q).2.2.2 ∧ Below w.heap.size w ((((wr.setCell ⟨w.heap.size + 1, 0, none⟩ y0).setCell ⟨w.heap.size + 1, 1, none⟩ y1).setCell ⟨w.heap.size + 1, 2, none⟩ y2).setCell ⟨w.heap.size + 1, 3, none⟩ y3)) := fun y0 y1 y2 y3 => by
        have hB := HR.out.hB
        refine ⟨(D5.of_heap fun k hk _ => ?_).mono fun k hk => by omega, (((HR.out.c.setCell (by simp) _).setCell (by simp) _).setCell (by simp) _).setCell (by simp) _⟩
        exact (((heap_setCell_other _ ⟨w.heap.size + 1, 3, none⟩ k _ (by show k ≠ w.heap.size + 1; omega)).trans (heap_setCell_other _ ⟨w.heap.size + 1, 2, none⟩ k _ (by show k ≠ w.heap.size + 1; omega))).trans (heap_setCell_other _ ⟨w.heap.size + 1, 1, none⟩ k _ (by show k ≠ w.heap.size + 1; omega))).trans (heap_setCell_other _ ⟨w.heap.size + 1, 0, none⟩ k _ (by show k ≠ w.heap.size + 1; omega))
      generalize (mSt xs ys is bs q).1.length = L1 at *
      generalize (mSt xs ys is bs q).2.1.length = L2 at *
      clear A5 D5 HO HN3
      go_wp2
      refine bodyPost_ret (v := .agg #[.slice r1 L1 s1, .slice r2 L2 s2, .slice p3 is.length q3, .slice p4 bs.length q4]) (by simp [results, go_sem, z0, z1, z2, z3]) rfl ⟨_, _, _, _, rfl, ?_, ?_⟩
      · exact (HF.out _ _ _ _).1
      · exact (HF.out _ _ _ _).2
    obtain rfl : n = 3 := by rcases HN3.out with e | e <;> omega
    have hOK := HO.out rfl
    have HK := hide (mSt_ok hOK)
    have HOK := hide hOK
    have HLP : Hid ((mendP is bs).length = is.length) := by have h1 := (diskOk_parts (mSt_ok hOK).1).2.2.1; have h2 := (diskOk_parts hOK).2.2.1; show _ = _; omega
    have HLB : Hid ((mendN (mendP is bs) bs).length = bs.length) := by have h1 := (diskOk_parts (mSt_ok hOK).2).2.2.2.2; have h2 := (diskOk_parts hOK).2.2.2.2; show _ = _; omega
    have hqs : q = 0 ∨ q = 1 ∨ q = 2 := by omega
    obtain ⟨u5, v5, A5, D5⟩ := HR.out.x
    obtain ⟨gl, ol, rfl, hgl, kl⟩ := HLC.out q (by show q < 3; exact hlt)
    have kl' := (HR.out.c.cell (p := ⟨gl, ol + q, none⟩) hgl).trans kl
    have kf := HR.out.f.cell q
    have lf : w.heap.size + 2 < wr.heap.size := HR.out.f.lt
    clear kl hOK hq
    rcases hqs with rfl | rfl | rfl
    · have eg := eg49
      obtain ⟨r1, s1, r2, s2, r3, s3, r4, s4, e1, e2, -, -⟩ := D5.dr.form
      have e1' : u5 = .slice r1 xs.length s1 := e1
      have e2' : v5 = .slice r2 ys.length s2 := e2
      subst e1' e2'
      have kq : wr.cell? ⟨gl, ol, none⟩ = some (.int .i64 0) := kl'
      have kg : wr.cell? ⟨w.heap.size + 2, 0, none⟩ = some (.func (.func 49) #[] #[]) := kf
      have CC := mendP_any b (w.heap.size + 3) r1 r2 p3 p4 s1 s2 q3 q4 xs ys is bs wr A5 D5 HOK.out HR.out.nn
      have HCC := hide CC
      clear kl' kf CC e1 e2 hlt
      go_wp2_with fail
      refine HCC.out.mono ?_
      rintro e w5 ⟨rfl, D6, C6⟩
      have HN : Hid (MS w w5 b (w.heap.size + 3) (w.heap.size + 2) (.slice p3 is.length q3) (.slice p4 bs.length q4) #[.slice a1 xs.length c1, .slice a2 ys.length c2, .slice a3 is.length c3, .slice a4 bs.length c4] (mSt xs ys is bs (0 + 1))) := HR.out.chg (C6.mono fun k hk => hk.1) ⟨_, _, (C6.block b A5.lt (fun e => e.2 rfl)).trans A5, D6⟩
      have HREL : Hid (∃ q : Nat, q ≤ 3 ∧ (Value.int .i64 1) = .int .i64 q ∧ Hid (MS w w5 b (w.heap.size + 3) (w.heap.size + 2) (.slice p3 is.length q3) (.slice p4 bs.length q4) #[.slice a1 xs.length c1, .slice a2 ys.length c2, .slice a3 is.length c3, .slice a4 bs.length c4] (mSt xs ys is bs q))) := ⟨1, by omega, rfl, HN.out⟩
      go_wp2
      go_roundw
      case rel => first | exact HREL.out | ((repeat apply Exists.intro); exact ⟨HREL.out, rfl⟩)
      case measure => simp [intOf]
    · have eg := eg50
      obtain ⟨r1, s1, r2, s2, r3, s3, r4, s4, e1, e2, -, -⟩ := D5.dr.form
      have e1' : u5 = .slice r1 xs.length s1 := e1
      have e2' : v5 = .slice r2 ys.length s2 := e2
      subst e1' e2'
      have kq : wr.cell? ⟨gl, ol + 1, none⟩ = some (.int .i64 1) := kl'
      have kg : wr.cell? ⟨w.heap.size + 2, 1, none⟩ = some (.func (.func 50) #[] #[]) := kf
      have CC := mendN_any b (w.heap.size + 3) r1 r2 p3 p4 s1 s2 q3 q4 xs ys (mendP is bs) bs wr (by rw [HLP.out]; exact A5) (by rw [HLP.out]; exact D5) HK.out.1
      rw [HLP.out] at CC
      have HCC := hide CC
      clear kl' kf CC e1 e2 hlt
      go_wp2_with fail
      refine HCC.out.mono ?_
      rintro e w5 ⟨rfl, D6, C6⟩
      have HN : Hid (MS w w5 b (w.heap.size + 3) (w.heap.size + 2) (.slice p3 is.length q3) (.slice p4 bs.length q4) #[.slice a1 xs.length c1, .slice a2 ys.length c2, .slice a3 is.length c3, .slice a4 bs.length c4] (mSt xs ys is bs (1 + 1))) := HR.out.chg (C6.mono fun k hk => hk.1) ⟨_, _, (C6.block b A5.lt (fun e => e.2 rfl)).trans A5, D6⟩
      have HREL : Hid (∃ q : Nat, q ≤ 3 ∧ (Value.int .i64 2) = .int .i64 q ∧ Hid (MS w w5 b (w.heap.size + 3) (w.heap.size + 2) (.slice p3 is.length q3) (.slice p4 bs.length q4) #[.slice a1 xs.length c1, .slice a2 ys.length c2, .slice a3 is.length c3, .slice a4 bs.length c4] (mSt xs ys is bs q))) := ⟨2, by omega, rfl, HN.out⟩
      go_wp2
      go_roundw
      case rel => first | exact HREL.out | ((repeat apply Exists.intro); exact ⟨HREL.out, rfl⟩)
      case measure => simp [intOf]
    · have eg := eg51
      obtain ⟨r1, s1, r2, s2, r3, s3, r4, s4, e1, e2, -, -⟩ := D5.dr.form
      have e1' : u5 = .slice r1 xs.length s1 := e1
      have e2' : v5 = .slice r2 ys.length s2 := e2
      subst e1' e2'
      have kq : wr.cell? ⟨gl, ol + 2, none⟩ = some (.int .i64 2) := kl'
      have kg : wr.cell? ⟨w.heap.size + 2, 2, none⟩ = some (.func (.func 51) #[] #[]) := kf
      have CC := mendR_any b (w.heap.size + 3) r1 r2 p3 p4 s1 s2 q3 q4 xs ys (mendP is bs) (mendN (mendP is bs) bs) wr (by rw [HLP.out, HLB.out]; exact A5) (by rw [HLP.out, HLB.out]; exact D5) HK.out.2 HR.out.nn HR.out.hb
      rw [HLP.out, HLB.out] at CC
      have HCC := hide CC
      clear kl' kf CC e1 e2 hlt
      go_wp2_with fail
      refine HCC.out.mono ?_
      rintro e w5 ⟨rfl, u6, v6, A6, D6, C6⟩
      have HN : Hid (MS w w5 b (w.heap.size + 3) (w.heap.size + 2) (.slice p3 is.length q3) (.slice p4 bs.length q4) #[.slice a1 xs.length c1, .slice a2 ys.length c2, .slice a3 is.length c3, .slice a4 bs.length c4] (mSt xs ys is bs (2 + 1))) := HR.out.chg C6 ⟨u6, v6, A6, D6⟩
      have HREL : Hid (∃ q : Nat, q ≤ 3 ∧ (Value.int .i64 3) = .int .i64 q ∧ Hid (MS w w5 b (w.heap.size + 3) (w.heap.size + 2) (.slice p3 is.length q3) (.slice p4 bs.length q4) #[.slice a1 xs.length c1, .slice a2 ys.length c2, .slice a3 is.length c3, .slice a4 bs.length c4] (mSt xs ys is bs q))) := ⟨3, by omega, rfl, HN.out⟩
      go_wp2
      go_roundw
      case rel => first | exact HREL.out | ((repeat apply Exists.intro); exact ⟨HREL.out, rfl⟩)
      case measure => simp [intOf]
set_option maxRecDepth 100000 in
set_option maxHeartbeats 6400000 in
theorem implMend_any (u v iv bv : Value) (xs ys : List Bool) (is : List Ino) (bs : List Blk) (w : World) (h : DR w u v iv bv xs ys is bs) (hG : Big 1048576 xs ys is bs) :
    Calls Tryz.prog 7 #[.agg #[u, v, iv, bv]] w fun e w' => ∃ u' v' i' b', e = .returned (.agg #[u', v', i', b']) ∧ DO w' (fun k => w.heap.size ≤ k) u' v' i' b' (mendD xs ys is bs).1 (mendD xs ys is bs).2.1 (mendD xs ys is bs).2.2.1 (mendD xs ys is bs).2.2.2 ∧ Below w.heap.size w w' := by
  obtain ⟨a1, c1, a2, c2, a3, c3, a4, c4, rfl, rfl, rfl, rfl⟩ := h.form
  have HH := hide h
  have HG := hide hG
  obtain ⟨W0, hW0⟩ : ∃ W, ((w.alloc (.cells #[.slice a1 xs.length c1, .slice a2 ys.length c2, .slice a3 is.length c3, .slice a4 bs.length c4] 34)).alloc (.cells #[.slice none 0 0, .slice none 0 0, .slice none 0 0, .slice none 0 0] 34)) = W := ⟨_, rfl⟩
  have H0 : Hid (Below w.heap.size w W0 ∧ AtC W0 w.heap.size 34 #[.slice a1 xs.length c1, .slice a2 ys.length c2, .slice a3 is.length c3, .slice a4 bs.length c4] ∧ AtC W0 (w.heap.size + 1) 34 noD ∧ W0.heap.size = w.heap.size + 2) := by
    rw [← hW0]
    have q := AtC.new (w.alloc (.cells #[.slice a1 xs.length c1, .slice a2 ys.length c2, .slice a3 is.length c3, .slice a4 bs.length c4] 34)) 34 #[.slice none 0 0, .slice none 0 0, .slice none 0 0, .slice none 0 0]
    rw [World.size_alloc] at q
    exact ⟨((Below.refl _ w).alloc (Nat.le_refl _) _).alloc (by simp) _, (AtC.new w 34 _).alloc _, q, by simp⟩
  have HFIN : Hid (∀ (W W2 : World) (u' v' i' b' : Value) (st : Dk4), Below W0.heap.size W0 W → DO W2 (fun k => W.heap.size ≤ k) u' v' i' b' st.1 st.2.1 st.2.2.1 st.2.2.2 → Below W.heap.size W W2 → ∀ y0 y1 y2 y3 : Value, DO ((((W2.setCell ⟨w.heap.size + 1, 0, none⟩ y0).setCell ⟨w.heap.size + 1, 1, none⟩ y1).setCell ⟨w.heap.size + 1, 2, none⟩ y2).setCell ⟨w.heap.size + 1, 3, none⟩ y3) (fun k => w.heap.size ≤ k) u' v' i' b' st.1 st.2.1 st.2.2.1 st.2.2.2 ∧ Below w.heap.size w ((((W2.setCell ⟨w.heap.size + 1, 0, none⟩ y0).setCell ⟨w.heap.size + 1, 1, none⟩ y1).setCell ⟨w.heap.size + 1, 2, none⟩ y2).setCell ⟨w.heap.size + 1, 3, none⟩ y3)) := fun W W2 u' v' i' b' st b1 hd b2 y0 y1 y2 y3 => by
    have s0 := H0.out.2.2.2
    have s1 := b1.size
    have bb := (H0.out.1.trans (b1.mono H0.out.1.size)).trans (b2.mono (Nat.le_trans H0.out.1.size s1))
    refine ⟨(hd.of_heap fun k hk _ => ?_).mono fun k hk => by omega, (((bb.setCell (by simp) _).setCell (by simp) _).setCell (by simp) _).setCell (by simp) _⟩
    exact (((heap_setCell_other _ ⟨w.heap.size + 1, 3, none⟩ k _ (by show k ≠ w.heap.size + 1; omega)).trans (heap_setCell_other _ ⟨w.heap.size + 1, 2, none⟩ k _ (by show k ≠ w.heap.size + 1; omega))).trans (heap_setCell_other _ ⟨w.heap.size + 1, 1, none⟩ k _ (by show k ≠ w.heap.size + 1; omega))).trans (heap_setCell_other _ ⟨w.heap.size + 1, 0, none⟩ k _ (by show k ≠ w.heap.size + 1; omega))
  have HWB : Hid (∀ W, Below W0.heap.size W0 W → AtC W w.heap.size 34 #[.slice a1 xs.length c1, .slice a2 ys.length c2, .slice a3 is.length c3, .slice a4 bs.length c4] ∧ AtC W (w.heap.size + 1) 34 noD ∧ DR W (.slice a1 xs.length c1) (.slice a2 ys.length c2) (.slice a3 is.length c3) (.slice a4 bs.length c4) xs ys is bs) := fun W hb => ⟨H0.out.2.1.over hb, H0.out.2.2.1.over hb, HH.out.below (H0.out.1.trans (hb.mono H0.out.1.size)) (Nat.le_refl _)⟩
  have x0 : W0.cell? ⟨w.heap.size, 0, none⟩ = some (.slice a1 xs.length c1) := H0.out.2.1.cell 0
  have x1 : W0.cell? ⟨w.heap.size, 1, none⟩ = some (.slice a2 ys.length c2) := H0.out.2.1.cell 1
  have x2 : W0.cell? ⟨w.heap.size, 2, none⟩ = some (.slice a3 is.length c3) := H0.out.2.1.cell 2
  have x3 : W0.cell? ⟨w.heap.size, 3, none⟩ = some (.slice a4 bs.length c4) := H0.out.2.1.cell 3
  clear h hG
  go_enter Tryz.func7, Tryz.ntmps7
  go_wp2_with fail
  refine (implOk_disk (.slice a1 xs.length c1) (.slice a2 ys.length c2) (.slice a3 is.length c3) (.slice a4 bs.length c4) xs ys is bs W0 (HWB.out W0 (Below.refl _ _)).2.2 HG.out.i HG.out.b).mono ?_
  rintro e w1 ⟨rfl, B1⟩
  have HB1 := hide B1
  have y0 : w1.cell? ⟨w.heap.size, 0, none⟩ = some (.slice a1 xs.length c1) := (HWB.out w1 B1).1.cell 0
  have y1 : w1.cell? ⟨w.heap.size, 1, none⟩ = some (.slice a2 ys.length c2) := (HWB.out w1 B1).1.cell 1
  have y2 : w1.cell? ⟨w.heap.size, 2, none⟩ = some (.slice a3 is.length c3) := (HWB.out w1 B1).1.cell 2
  have y3 : w1.cell? ⟨w.heap.size, 3, none⟩ = some (.slice a4 bs.length c4) := (HWB.out w1 B1).1.cell 3
  clear B1 hW0 x0 x1 x2 x3
  cases hok : diskOk xs ys is bs with
  | false =>
    have HM : Hid (mendD xs ys is bs = mSt xs ys is bs 0) := by unfold mendD; rw [hok]; rfl
    have CM := hide (mended_any 0 (.inl rfl) (.slice none 0 0) (.slice a1 xs.length c1) (.slice a2 ys.length c2) (.slice a3 is.length c3) (.slice a4 bs.length c4) xs ys is bs w1 (HWB.out w1 HB1.out).2.2 HG.out ⟨none, 0, rfl, fun j hj => absurd hj (by simp)⟩ (fun e => by cases e))
    clear hok
    go_wp2_with fail
    refine CM.out.mono ?_
    rintro e w5 ⟨u5, v5, i5, b5, rfl, D5, B5⟩
    obtain ⟨r1, s1, r2, s2, r3, s3, r4, s4, rfl, rfl, rfl, rfl⟩ := D5.dr.form
    have hbb := (HWB.out w5 (HB1.out.trans (B5.mono HB1.out.size))).2.1
    have z0 : w5.cell? ⟨w.heap.size + 1, 0, none⟩ = some (.slice none 0 0) := hbb.cell 0
    have z1 : w5.cell? ⟨w.heap.size + 1, 1, none⟩ = some (.slice none 0 0) := hbb.cell 1
    have z2 : w5.cell? ⟨w.heap.size + 1, 2, none⟩ = some (.slice none 0 0) := hbb.cell 2
    have z3 : w5.cell? ⟨w.heap.size + 1, 3, none⟩ = some (.slice none 0 0) := hbb.cell 3
    have f0 := hbb.frozen 0
    have f1 := hbb.frozen 1
    have f2 := hbb.frozen 2
    have f3 := hbb.frozen 3
    have HF := hide (HFIN.out _ w5 _ _ _ _ (mSt xs ys is bs 0) HB1.out D5 B5)
    generalize (mSt xs ys is bs 0).1.length = L1 at *
    generalize (mSt xs ys is bs 0).2.1.length = L2 at *
    generalize (mSt xs ys is bs 0).2.2.1.length = L3 at *
    generalize (mSt xs ys is bs 0).2.2.2.length = L4 at *
    clear D5 B5 hbb
    go_wp2
    refine bodyPost_ret (v := .agg #[.slice r1 L1 s1, .slice r2 L2 s2, .slice r3 L3 s3, .slice r4 L4 s4]) (by simp [results, go_sem, z0, z1, z2, z3]) rfl ⟨_, _, _, _, rfl, ?_, ?_⟩
    · rw [HM.out]; exact (HF.out _ _ _ _).1
    · exact (HF.out _ _ _ _).2
  | true =>
    have HM : Hid (mendD xs ys is bs = mSt xs ys is bs 3) := by unfold mendD; rw [hok]; rfl
    obtain ⟨W2, hW2⟩ : ∃ W, w1.alloc (.cells #[.int .i64 0, .int .i64 1, .int .i64 2] 3) = W := ⟨_, rfl⟩
    have H2 : Hid (Below W0.heap.size W0 W2 ∧ RInts W2 (.slice (some ⟨w1.heap.size, 0, none⟩) 3 3) (([0, 1, 2] : List Int).take 3)) := by
      rw [← hW2]
      refine ⟨HB1.out.alloc HB1.out.size _, _, _, rfl, fun j hj => ⟨w1.heap.size, 0, rfl, by simp, ?_⟩⟩
      have e := (AtC.new w1 3 #[.int .i64 0, .int .i64 1, .int .i64 2]).cell j
      have hj3 : j < 3 := hj
      rw [Nat.zero_add, e]
      rcases (show j = 0 ∨ j = 1 ∨ j = 2 by omega) with rfl | rfl | rfl <;> rfl
    have CM := hide (mended_any 3 (.inr rfl) _ (.slice a1 xs.length c1) (.slice a2 ys.length c2) (.slice a3 is.length c3) (.slice a4 bs.length c4) xs ys is bs W2 (HWB.out W2 H2.out.1).2.2 HG.out H2.out.2 (fun _ => hok))
    have HB2 := hide H2.out.1
    clear hok
    go_wp2_with fail
    refine CM.out.mono ?_
    rintro e w5 ⟨u5, v5, i5, b5, rfl, D5, B5⟩
    obtain ⟨r1, s1, r2, s2, r3, s3, r4, s4, rfl, rfl, rfl, rfl⟩ := D5.dr.form
    have hbb := (HWB.out w5 (HB2.out.trans (B5.mono HB2.out.size))).2.1
    have z0 : w5.cell? ⟨w.heap.size + 1, 0, none⟩ = some (.slice none 0 0) := hbb.cell 0
    have z1 : w5.cell? ⟨w.heap.size + 1, 1, none⟩ = some (.slice none 0 0) := hbb.cell 1
    have z2 : w5.cell? ⟨w.heap.size + 1, 2, none⟩ = some (.slice none 0 0) := hbb.cell 2
    have z3 : w5.cell? ⟨w.heap.size + 1, 3, none⟩ = some (.slice none 0 0) := hbb.cell 3
    have f0 := hbb.frozen 0
    have f1 := hbb.frozen 1
    have f2 := hbb.frozen 2
    have f3 := hbb.frozen 3
    have HF := hide (HFIN.out _ w5 _ _ _ _ (mSt xs ys is bs 3) HB2.out D5 B5)
    generalize (mSt xs ys is bs 3).1.length = L1 at *
    generalize (mSt xs ys is bs 3).2.1.length = L2 at *
    generalize (mSt xs ys is bs 3).2.2.1.length = L3 at *
    generalize (mSt xs ys is bs 3).2.2.2.length = L4 at *
    clear D5 B5 hbb
    go_wp2
    refine bodyPost_ret (v := .agg #[.slice r1 L1 s1, .slice r2 L2 s2, .slice r3 L3 s3, .slice r4 L4 s4]) (by simp [results, go_sem, z0, z1, z2, z3]) rfl ⟨_, _, _, _, rfl, ?_, ?_⟩
    · rw [HM.out]; exact (HF.out _ _ _ _).1
    · exact (HF.out _ _ _ _).2
end Go.Proofs.YtbebgnknjoclkaaGreat
/- Of the specification: MendAll by its contract. -/
namespace Go.Proofs.YtbebgnknjoclkaaGreat
open Go.RowKit Kit
theorem big_ok {xs ys : List Bool} {is : List Ino} {bs : List Blk} (h : diskOk xs ys is bs = true) : Big 1048576 xs ys is bs := by
  have hX := RX.of_ok h
  refine ⟨by rw [hX.bx]; decide, by rw [hX.y8]; decide, by rw [hX.r.hi]; decide, fun j hj => by rw [hX.r.two _ (List.getElem_mem hj)]; decide, by rw [hX.r.hb]; decide, fun j hj => ⟨?_, fun k hk => ?_, ?_⟩⟩
  · have := hX.r.four _ (List.getElem_mem hj); omega
  · rcases hX.r.nm _ (List.getElem_mem hj) _ (List.getElem_mem hk) with e | e
    · rw [e]; decide
    · have := (of_decide_eq_true e).1.2; omega
  · have := hX.r.tx _ (List.getElem_mem hj); omega
theorem restL_big {is : List Ino} {bs : List Blk} {xs ys : List Bool} (h : diskOk xs ys is bs = true) : Big 1048576 (fB is bs) (fI is bs) (restL is bs) bs := by
  have hb := big_ok h
  have hX := RX.of_ok h
  refine ⟨by simp [fB], by simp [fI], by rw [restL_len]; decide, fun j hj => ?_, hb.b, hb.s⟩
  have e : (restL is bs)[j] = restI is bs j := by simp [restL]
  rw [e, (restI_form hX (by rw [restL_len] at hj; exact hj)).2.1]
  decide
/-- What the three passes make. -/
theorem pass_all (xs ys : List Bool) (is : List Ino) (bs : List Blk) : ((mendR' xs ys (mendP' xs ys is bs) (mendN' xs ys (mendP' xs ys is bs) bs)).1, (mendR' xs ys (mendP' xs ys is bs) (mendN' xs ys (mendP' xs ys is bs) bs)).2.1, (mendR' xs ys (mendP' xs ys is bs) (mendN' xs ys (mendP' xs ys is bs) bs)).2.2, mendN' xs ys (mendP' xs ys is bs) bs) = mendD xs ys is bs := by
  unfold mendD
  cases h : diskOk xs ys is bs with
  | false =>
    have e1 : mendP' xs ys is bs = is := by unfold mendP'; rw [h]; rfl
    have e2 : mendN' xs ys is bs = bs := by unfold mendN'; rw [h]; rfl
    have e3 : mendR' xs ys is bs = (xs, ys, is) := by unfold mendR'; rw [h]; rfl
    rw [e1, e2, e3]; rfl
  | true =>
    obtain ⟨k1, k2⟩ := mSt_ok h
    have e1 : mendP' xs ys is bs = mendP is bs := by unfold mendP'; rw [h]; rfl
    have e2 : mendN' xs ys (mendP is bs) bs = mendN (mendP is bs) bs := by unfold mendN'; rw [k1]; rfl
    have e3 : mendR' xs ys (mendP is bs) (mendN (mendP is bs) bs) = (fB (mendP is bs) (mendN (mendP is bs) bs), fI (mendP is bs) (mendN (mendP is bs) bs), restL (mendP is bs) (mendN (mendP is bs) bs)) := by unfold mendR'; rw [k2]; rfl
    rw [e1, e2, e3]; rfl
theorem big_P {xs ys : List Bool} {is : List Ino} {bs : List Blk} (h : Big 1048576 xs ys is bs) : Big 1048576 xs ys (mendP' xs ys is bs) bs ∧ Big 1048576 xs ys (mendP' xs ys is bs) (mendN' xs ys (mendP' xs ys is bs) bs) := by
  cases hk : diskOk xs ys is bs with
  | false =>
    have e1 : mendP' xs ys is bs = is := by unfold mendP'; rw [hk]; rfl
    have e2 : mendN' xs ys is bs = bs := by unfold mendN'; rw [hk]; rfl
    rw [e1, e2]; exact ⟨h, h⟩
  | true =>
    obtain ⟨k1, k2⟩ := mSt_ok hk
    have e1 : mendP' xs ys is bs = mendP is bs := by unfold mendP'; rw [hk]; rfl
    have e2 : mendN' xs ys (mendP is bs) bs = mendN (mendP is bs) bs := by unfold mendN'; rw [k1]; rfl
    rw [e1, e2]; exact ⟨big_ok k1, big_ok k2⟩
theorem big_D {xs ys : List Bool} {is : List Ino} {bs : List Blk} (h : Big 1048576 xs ys is bs) : Big 1048576 (mendD xs ys is bs).1 (mendD xs ys is bs).2.1 (mendD xs ys is bs).2.2.1 (mendD xs ys is bs).2.2.2 := by
  unfold mendD
  split
  · rename_i hk; exact restL_big (mSt_ok hk).2
  · exact h
set_option maxRecDepth 100000 in
set_option maxHeartbeats 6400000 in
theorem specMend_any (u v iv bv : Value) (xs ys : List Bool) (is : List Ino) (bs : List Blk) (w : World) (h : DR w u v iv bv xs ys is bs) (hG : Big 1048576 xs ys is bs) :
    Calls Tryz.prog 5 #[.agg #[u, v, iv, bv]] w fun e w' => ∃ u' v' i' b', e = .returned (.agg #[u', v', i', b']) ∧ DO w' (fun k => w.heap.size ≤ k) u' v' i' b' (mendD xs ys is bs).1 (mendD xs ys is bs).2.1 (mendD xs ys is bs).2.2.1 (mendD xs ys is bs).2.2.2 ∧ Below w.heap.size w w' := by
  obtain ⟨a1, c1, a2, c2, a3, c3, a4, c4, rfl, rfl, rfl, rfl⟩ := h.form
  have HH := hide h
  have HG := hide hG
  have HG2 := hide (big_P hG)
  obtain ⟨W0, hW0⟩ : ∃ W, ((w.alloc (.cells #[.slice a1 xs.length c1, .slice a2 ys.length c2, .slice a3 is.length c3, .slice a4 bs.length c4] 34)).alloc (.cells #[.slice none 0 0, .slice none 0 0, .slice none 0 0, .slice none 0 0] 34)) = W := ⟨_, rfl⟩
  have H0 : Hid (Below w.heap.size w W0 ∧ AtC W0 w.heap.size 34 #[.slice a1 xs.length c1, .slice a2 ys.length c2, .slice a3 is.length c3, .slice a4 bs.length c4] ∧ AtC W0 (w.heap.size + 1) 34 noD ∧ W0.heap.size = w.heap.size + 2) := by
    rw [← hW0]
    have q := AtC.new (w.alloc (.cells #[.slice a1 xs.length c1, .slice a2 ys.length c2, .slice a3 is.length c3, .slice a4 bs.length c4] 34)) 34 #[.slice none 0 0, .slice none 0 0, .slice none 0 0, .slice none 0 0]
    rw [World.size_alloc] at q
    exact ⟨((Below.refl _ w).alloc (Nat.le_refl _) _).alloc (by simp) _, (AtC.new w 34 _).alloc _, q, by simp⟩
  have HPA := hide (pass_all xs ys is bs)
  have x0 : W0.cell? ⟨w.heap.size, 0, none⟩ = some (.slice a1 xs.length c1) := H0.out.2.1.cell 0
  have x1 : W0.cell? ⟨w.heap.size, 1, none⟩ = some (.slice a2 ys.length c2) := H0.out.2.1.cell 1
  have x2 : W0.cell? ⟨w.heap.size, 2, none⟩ = some (.slice a3 is.length c3) := H0.out.2.1.cell 2
  have x3 : W0.cell? ⟨w.heap.size, 3, none⟩ = some (.slice a4 bs.length c4) := H0.out.2.1.cell 3
  clear h hG
  go_enter Tryz.func5, Tryz.ntmps5
  go_wp2_with fail
  refine (specMP_any (.slice a1 xs.length c1) (.slice a2 ys.length c2) (.slice a3 is.length c3) (.slice a4 bs.length c4) xs ys is bs W0 (HH.out.below H0.out.1 (Nat.le_refl _)) HG.out).mono ?_
  rintro e w1 ⟨u1, v1, i1, b1, rfl, D1, B1⟩
  have HD1 := hide (And.intro D1.dr B1)
  obtain ⟨r1, s1, r2, s2, r3, s3, r4, s4, rfl, rfl, rfl, rfl⟩ := D1.dr.form
  clear D1 B1 hW0 x0 x1 x2 x3
  go_wp2_with fail
  refine (specMN_any _ _ _ _ xs ys (mendP' xs ys is bs) bs w1 HD1.out.1 HG2.out.1).mono ?_
  rintro e w2 ⟨u2, v2, i2, b2, rfl, D2, B2⟩
  have HD2 := hide (And.intro D2.dr B2)
  obtain ⟨m1, n1, m2, n2, m3, n3, m4, n4, rfl, rfl, rfl, rfl⟩ := D2.dr.form
  clear D2 B2
  go_wp2_with fail
  refine (specMR_any _ _ _ _ xs ys (mendP' xs ys is bs) (mendN' xs ys (mendP' xs ys is bs) bs) w2 HD2.out.1 HG2.out.2).mono ?_
  rintro e w5 ⟨u5, v5, i5, b5, rfl, D5, B5⟩
  obtain ⟨d1, f1, d2, f2, d3, f3, d4, f4, rfl, rfl, rfl, rfl⟩ := D5.dr.form
  have b2 := HD1.out.2.trans (HD2.out.2.mono HD1.out.2.size)
  have b5 := b2.trans (B5.mono b2.size)
  have bb := H0.out.1.trans (b5.mono H0.out.1.size)
  have hbb := H0.out.2.2.1.over b5
  have z0 : w5.cell? ⟨w.heap.size + 1, 0, none⟩ = some (.slice none 0 0) := hbb.cell 0
  have z1 : w5.cell? ⟨w.heap.size + 1, 1, none⟩ = some (.slice none 0 0) := hbb.cell 1
  have z2 : w5.cell? ⟨w.heap.size + 1, 2, none⟩ = some (.slice none 0 0) := hbb.cell 2
  have z3 : w5.cell? ⟨w.heap.size + 1, 3, none⟩ = some (.slice none 0 0) := hbb.cell 3
  have g0 := hbb.frozen 0
  have g1 := hbb.frozen 1
  have g2 := hbb.frozen 2
  have g3 := hbb.frozen 3
  have HF : Hid (∀ y0 y1 y2 y3 : Value, DO ((((w5.setCell ⟨w.heap.size + 1, 0, none⟩ y0).setCell ⟨w.heap.size + 1, 1, none⟩ y1).setCell ⟨w.heap.size + 1, 2, none⟩ y2).setCell ⟨w.heap.size + 1, 3, none⟩ y3) (fun k => w.heap.size ≤ k) _ _ _ _ _ _ _ _ ∧ Below w.heap.size w ((((w5.setCell ⟨w.heap.size + 1, 0, none⟩ y0).setCell ⟨w.heap.size + 1, 1, none⟩ y1).setCell ⟨w.heap.size + 1, 2, none⟩ y2).setCell ⟨w.heap.size + 1, 3, none⟩ y3)) := fun y0 y1 y2 y3 => by
    have s0 := H0.out.2.2.2
    have s2 := b2.size
    refine ⟨(D5.of_heap fun k hk _ => ?_).mono fun k hk => by omega, (((bb.setCell (by simp) _).setCell (by simp) _).setCell (by simp) _).setCell (by simp) _⟩
    exact (((heap_setCell_other _ ⟨w.heap.size + 1, 3, none⟩ k _ (by show k ≠ w.heap.size + 1; omega)).trans (heap_setCell_other _ ⟨w.heap.size + 1, 2, none⟩ k _ (by show k ≠ w.heap.size + 1; omega))).trans (heap_setCell_other _ ⟨w.heap.size + 1, 1, none⟩ k _ (by show k ≠ w.heap.size + 1; omega))).trans (heap_setCell_other _ ⟨w.heap.size + 1, 0, none⟩ k _ (by show k ≠ w.heap.size + 1; omega))
  rw [show (mendR' xs ys (mendP' xs ys is bs) (mendN' xs ys (mendP' xs ys is bs) bs)).1 = (mendD xs ys is bs).1 from congrArg (·.1) HPA.out, show (mendR' xs ys (mendP' xs ys is bs) (mendN' xs ys (mendP' xs ys is bs) bs)).2.1 = (mendD xs ys is bs).2.1 from congrArg (·.2.1) HPA.out, show (mendR' xs ys (mendP' xs ys is bs) (mendN' xs ys (mendP' xs ys is bs) bs)).2.2 = (mendD xs ys is bs).2.2.1 from congrArg (·.2.2.1) HPA.out, show mendN' xs ys (mendP' xs ys is bs) bs = (mendD xs ys is bs).2.2.2 from congrArg (·.2.2.2) HPA.out] at *
  generalize (mendD xs ys is bs).1.length = L1 at *
  generalize (mendD xs ys is bs).2.1.length = L2 at *
  generalize (mendD xs ys is bs).2.2.1.length = L3 at *
  generalize (mendD xs ys is bs).2.2.2.length = L4 at *
  clear D5 B5 hbb b2 b5 bb HPA
  go_wp2
  refine bodyPost_ret (v := .agg #[.slice d1 L1 f1, .slice d2 L2 f2, .slice d3 L3 f3, .slice d4 L4 f4]) (by simp [results, go_sem, z0, z1, z2, z3]) rfl ⟨_, _, _, _, rfl, ?_, ?_⟩
  · exact (HF.out _ _ _ _).1
  · exact (HF.out _ _ _ _).2
end Go.Proofs.YtbebgnknjoclkaaGreat
/- laws.markInodeS, laws.markBlockS, laws.heldInodeS, laws.heldBlockS by their contracts. -/
namespace Go.Proofs.YtbebgnknjoclkaaGreat
open Go.RowKit Kit
/-- How many marks an inode, a block takes, and each of them marked. -/
def szI (x : Ino) : Nat := 2 + x.2.2.length
def mkI (k : Nat) (x : Ino) : Ino := ((k : Int), ((k + 1 : Nat) : Int), marksI (k + 2) x.2.2.length)
def szB (b : Blk) : Nat := 2 + b.2.1.length * 2
def mkB (k : Nat) (b : Blk) : Blk := (mk3 k, mkS (k + 1) b.2.1.length, mkT (k + 1 + b.2.1.length * 2))
set_option maxRecDepth 100000 in
set_option maxHeartbeats 1600000 in
theorem markInoS_any (v : Value) (ts : List V3) (xs : List Ino) (S : Nat → Prop) (k : Nat) (w : World) (h : GO KI w S v ts xs) (hk : cnt szI k xs ≤ 100000000000000) :
    Calls Tryz.prog 26 #[v, .int .i64 k] w fun e w' => ∃ ts', e = .returned (.int .i64 (cnt szI k xs : Nat)) ∧ GO KI w' S v ts' (mkL szI mkI k xs) ∧ Chg S w w' := by
  have hlen : k + xs.length ≤ cnt szI k xs := cnt_len (fun x => by simp [szI]; omega) k xs
  obtain ⟨a1, c1, rfl⟩ := h.form
  have HG := hide h
  have HK := hide hk
  clear h
  go_enter Tryz.func26, Tryz.ntmps26
  go_wp2
  go_loopw [1, 5] (fun x i wr => ∃ j : Nat, j ≤ xs.length ∧ i = .int .i64 j ∧ x = .int .i64 (cnt szI k (xs.take j) : Nat) ∧ Hid (∃ ts, GO KI wr S (.slice a1 xs.length c1) ts (mkd szI mkI k j xs)) ∧ Hid (Chg S w wr)) (fun _ i _ => xs.length - (intOf i).toNat)
  case atStart => exact ⟨0, Nat.zero_le _, rfl, rfl, ⟨ts, by rw [mkd_zero]; exact HG.out⟩, Chg.refl _ _⟩
  case round =>
    obtain ⟨j, hj, rfl, rfl, HT, HC⟩ := hrel
    by_cases hlt : j < xs.length
    · obtain ⟨ts2, hts⟩ := HT.out
      have hl2 : ts2.length = xs.length := by rw [hts.len, mkd_length]
      have hj2 : j < ts2.length := by omega
      obtain ⟨g, c2, e1, k1, k2, k3, k4, k5, -⟩ := hts.row.at j hj2
      simp only [Value.slice.injEq] at e1
      obtain ⟨rfl, -, rfl⟩ := e1
      have hin := hts.inn j hj2 (by rw [mkd_length]; exact hlt)
      rw [mkd_at k j xs hlt] at hin
      obtain ⟨i1, i2, i3⟩ := hin
      obtain ⟨p, hp⟩ : ∃ p, ts2[j].2.2 = p := ⟨_, rfl⟩
      obtain ⟨l, hl⟩ : ∃ l, xs[j].2.2 = l := ⟨_, rfl⟩
      rw [i1] at k1
      rw [i2] at k2
      rw [hp] at k3 i3
      rw [hl] at i3
      have hcle := cnt_le (sz := szI) k xs j hlt
      have hcs := cnt_succ (sz := szI) k xs j hlt
      have hset := mkd_set (sz := szI) (mk := mkI) k j xs hlt
      have hszj : szI xs[j] = 2 + l.length := by rw [← hl]; rfl
      rw [hszj] at hcle hcs
      have hmk : ∀ K, mkI K xs[j] = ((K : Int), ((K + 1 : Nat) : Int), marksI (K + 2) l.length) := fun K => by rw [← hl]; rfl
      rw [hmk] at hset
      obtain ⟨K, hK⟩ : ∃ K : Nat, cnt szI k (xs.take j) = K := ⟨_, rfl⟩
      rw [hK] at hcle hcs hset ⊢
      have hK1 : K + (2 + l.length) ≤ 100000000000000 := Nat.le_trans hcle hk
      have HM : Hid (∀ w1, ROwns w1 0 3 p (ic (marksI (K + 2) l.length)) → ((wr.setCell ⟨g, j * 3, none⟩ (.int .i64 (K : Int))).setCell ⟨g, j * 3 + 1, none⟩ (.int .i64 ((K : Int) + 1))).grownBy w1 p.ownBlock → (∃ ts, GO KI w1 S (.slice (some ⟨g, 0, none⟩) xs.length c1) ts (mkd szI mkI k (j + 1) xs)) ∧ Chg S w w1) := fun w1 hr hg => by
        have := hts.markI rfl j hj2 (K : Int) ((K + 1 : Nat) : Int) (marksI (K + 2) l.length) (by rw [hp]; exact hr) (by rw [hp]; exact hg)
        rw [hset] at this
        exact ⟨⟨_, this.1⟩, HC.out.trans this.2⟩
      have HO : Hid (ROwns ((wr.setCell ⟨g, j * 3, none⟩ (.int .i64 (K : Int))).setCell ⟨g, j * 3 + 1, none⟩ (.int .i64 ((K : Int) + 1))) 0 3 p (ic l)) := i3.of_heap fun m hm => by
        have hne : m ≠ g := fun e => hts.out j hj2 m (by rw [show KI.p ts2[j] = ts2[j].2.2 from rfl, hp]; exact hm) (by rw [e]; rfl)
        exact (heap_setCell_other _ ⟨g, j * 3 + 1, none⟩ m _ (by simpa using hne)).trans (heap_setCell_other _ ⟨g, j * 3, none⟩ m _ (by simpa using hne))
      have HCS := hide hcs
      have f0 := k4 (j * 3)
      have f1 := k4 (j * 3 + 1)
      have j0 : (0 : Int) ≤ (j : Int) := by omega
      have j1 : (j : Int) < (xs.length : Int) := by omega
      clear hts HT hp hl hcle hset hszj hmk hK i1 i2 i3 hcs k4 hl2 hj2
      go_wp2_with (go_at_call 57; refine (markI_any p l 0 (K + 2) _ HO.out (by omega) (by omega)).mono ?_; rintro e w1 ⟨rfl, R1, G1⟩; have H1 := hide (HM.out w1 R1 G1); clear R1 G1)
      go_roundw
      case rel => exact ⟨j + 1, by omega, by go_num, by rw [HCS.out]; go_num, H1.out.1, H1.out.2⟩
      case measure => simp [intOf]; omega
    · have hjl : j = xs.length := by omega
      have HJ := hide hjl
      clear hjl
      go_wp2
      go_ret
      obtain ⟨ts2, hts⟩ := HT.out
      rw [HJ.out, mkd_all] at hts
      exact ⟨ts2, by rw [HJ.out, cnt_all]; rfl, hts, HC.out⟩
set_option maxRecDepth 100000 in
set_option maxHeartbeats 1600000 in
theorem markBlkS_any (v : Value) (ts : List V3) (xs : List Blk) (S : Nat → Prop) (k : Nat) (w : World) (h : GO KB w S v ts xs) (hk0 : 1 ≤ k) (hk : cnt szB k xs ≤ 100000000000000) :
    Calls Tryz.prog 27 #[v, .int .i64 k] w fun e w' => ∃ ts', e = .returned (.int .i64 (cnt szB k xs : Nat)) ∧ GO KB w' S v ts' (mkL szB mkB k xs) ∧ Chg S w w' := by
  have hlen : k + xs.length ≤ cnt szB k xs := cnt_len (fun x => by simp [szB]; omega) k xs
  obtain ⟨a1, c1, rfl⟩ := h.form
  have HG := hide h
  have HK := hide hk
  clear h
  go_enter Tryz.func27, Tryz.ntmps27
  go_wp2
  go_loopw [1, 5] (fun x i wr => ∃ j : Nat, j ≤ xs.length ∧ i = .int .i64 j ∧ x = .int .i64 (cnt szB k (xs.take j) : Nat) ∧ Hid (∃ ts, GO KB wr S (.slice a1 xs.length c1) ts (mkd szB mkB k j xs)) ∧ Hid (Chg S w wr)) (fun _ i _ => xs.length - (intOf i).toNat)
  case atStart => exact ⟨0, Nat.zero_le _, rfl, rfl, ⟨ts, by rw [mkd_zero]; exact HG.out⟩, Chg.refl _ _⟩
  case round =>
    obtain ⟨j, hj, rfl, rfl, HT, HC⟩ := hrel
    by_cases hlt : j < xs.length
    · obtain ⟨ts2, hts⟩ := HT.out
      have hl2 : ts2.length = xs.length := by rw [hts.len, mkd_length]
      have hj2 : j < ts2.length := by omega
      obtain ⟨g, c2, e1, k1, k2, k3, k4, k5, -⟩ := hts.row.at j hj2
      simp only [Value.slice.injEq] at e1
      obtain ⟨rfl, -, rfl⟩ := e1
      have hin := hts.inn j hj2 (by rw [mkd_length]; exact hlt)
      rw [mkd_at k j xs hlt] at hin
      obtain ⟨i1, i2, i3⟩ := hin
      obtain ⟨p, hp⟩ : ∃ p, ts2[j].2.1 = p := ⟨_, rfl⟩
      obtain ⟨l, hl⟩ : ∃ l, xs[j].2.1 = l := ⟨_, rfl⟩
      obtain ⟨t0, ht0⟩ : ∃ t, xs[j].2.2 = t := ⟨_, rfl⟩
      rw [i1] at k1
      rw [i3, ht0] at k3
      rw [hp] at k2 i2
      rw [hl] at i2
      have hcle := cnt_le (sz := szB) k xs j hlt
      have hcs := cnt_succ (sz := szB) k xs j hlt
      have hset := mkd_set (sz := szB) (mk := mkB) k j xs hlt
      have hszj : szB xs[j] = 2 + l.length * 2 := by rw [← hl]; rfl
      rw [hszj] at hcle hcs
      have hmk : ∀ K, mkB K xs[j] = (mk3 K, mkS (K + 1) l.length, mkT (K + 1 + l.length * 2)) := fun K => by rw [← hl]; rfl
      rw [hmk] at hset
      have hK2 := cnt_ge (sz := szB) k (xs.take j)
      obtain ⟨K, hK⟩ : ∃ K : Nat, cnt szB k (xs.take j) = K := ⟨_, rfl⟩
      rw [hK] at hcle hcs hset hK2 ⊢
      have hK1 : K + (2 + l.length * 2) ≤ 100000000000000 := Nat.le_trans hcle hk
      have HM : Hid (∀ w1 w2, SOwns w1 0 74 p (mkS (K + 1) l.length) → (wr.setCell ⟨g, j * 3, none⟩ (.bool ((K : Int) % 3 == 0))).grownBy w1 p.ownBlock → Below w1.heap.size w1 w2 → (∃ ts, GO KB (w2.setCell ⟨g, j * 3 + 2, none⟩ (.string (mkT (K + 1 + l.length * 2)))) S (.slice (some ⟨g, 0, none⟩) xs.length c1) ts (mkd szB mkB k (j + 1) xs)) ∧ Chg S w (w2.setCell ⟨g, j * 3 + 2, none⟩ (.string (mkT (K + 1 + l.length * 2))))) := fun w1 w2 hr hg hb => by
        rw [← mk3_int] at hg
        have := hts.markB rfl j hj2 (mk3 K) (mkT (K + 1 + l.length * 2)) (mkS (K + 1) l.length) (by rw [hp]; exact hr) (by rw [hp]; exact hg) hb
        rw [hset] at this
        exact ⟨⟨_, this.1⟩, HC.out.trans this.2⟩
      have hne : ∀ m, p.ownBlock = some m → m ≠ g := fun m hm e => hts.out j hj2 m (by rw [show KB.p ts2[j] = ts2[j].2.1 from rfl, hp]; exact hm) (by rw [e]; rfl)
      have HO : Hid (SOwns (wr.setCell ⟨g, j * 3, none⟩ (.bool ((K : Int) % 3 == 0))) 0 74 p l) := i2.of_heap fun m hm => heap_setCell_other _ ⟨g, j * 3, none⟩ m _ (by simpa using hne m hm)
      have hfr : wr.frozen? ⟨g, j * 3 + 2, none⟩ = false := k4 _
      have HX : Hid (∀ w1 w2, (wr.setCell ⟨g, j * 3, none⟩ (.bool ((K : Int) % 3 == 0))).grownBy w1 p.ownBlock → Below w1.heap.size w1 w2 → w2.cell? ⟨g, j * 3 + 2, none⟩ = some (.string t0) ∧ w2.frozen? ⟨g, j * 3 + 2, none⟩ = false) := fun w1 w2 hg hb => by
        have hgw : g < wr.heap.size := hts.row.lt g rfl
        have hsz1 : wr.heap.size ≤ w1.heap.size := by have := hg.size; simpa using this
        have eh : w2.heap[g]? = (wr.setCell ⟨g, j * 3, none⟩ (.bool ((K : Int) % 3 == 0))).heap[g]? := (hb.block g (by omega)).trans (hg.block g (by simpa using hgw) (fun e => hne g e.symm rfl))
        have hrow0 : TOwns wr KB.T (.slice (some ⟨g, 0, none⟩) ts2.length c1) ts2 := by rw [hl2]; exact hts.row
        have hrow := hrow0.set0 j hj2 (.bool ((K : Int) % 3 == 0))
        have hrow2 : TOwns w2 KB.T (.slice (some ⟨g, 0, none⟩) ts2.length c1) (ts2.set j (.bool ((K : Int) % 3 == 0), ts2[j].2.1, ts2[j].2.2)) := hrow.of_heap fun m hm => by
          have e : m = g := by simpa [Value.ownBlock] using hm.symm
          subst e
          exact eh
        obtain ⟨g', c', e', q1, q2, q3, q4, -⟩ := hrow2.at j (by simpa using hj2)
        simp only [Value.slice.injEq, Option.some.injEq, Addr.mk.injEq] at e'
        obtain ⟨⟨rfl, -⟩, -⟩ := e'
        simp only [List.getElem_set_self] at q3
        rw [i3, ht0] at q3
        exact ⟨q3, q4 _⟩
      have HCS := hide hcs
      have f0 := k4 (j * 3)
      have j0 : (0 : Int) ≤ (j : Int) := by omega
      have j1 : (j : Int) < (xs.length : Int) := by omega
      clear hts HT hp hl hcle hset hszj hmk hK i1 i2 i3 hcs k4 hl2 hj2 hne k3 hfr
      go_wp2_with (first | (go_at_call 58; refine (markS_any p l 0 (K + 1) _ HO.out (by omega) (by omega) (by omega)).mono ?_; rintro e w1 ⟨rfl, R1, G1⟩; have HR1 := hide R1; have HG1 := hide G1; clear R1 G1) | (go_at_call 59; refine (markText_any (K + 1 + l.length * 2) _ (by omega) (by omega)).mono ?_; rintro e w2 ⟨rfl, B2⟩; have H1 := hide (HM.out _ w2 HR1.out HG1.out B2); obtain ⟨y1, y2⟩ := HX.out _ w2 HG1.out B2; clear B2))
      go_roundw
      case rel => exact ⟨j + 1, by omega, by go_num, by rw [HCS.out]; go_num, H1.out.1, H1.out.2⟩
      case measure => simp [intOf]; omega
    · have hjl : j = xs.length := by omega
      have HJ := hide hjl
      clear hjl
      go_wp2
      go_ret
      obtain ⟨ts2, hts⟩ := HT.out
      rw [HJ.out, mkd_all] at hts
      exact ⟨ts2, by rw [HJ.out, cnt_all]; rfl, hts, HC.out⟩
set_option maxRecDepth 100000 in
set_option maxHeartbeats 1600000 in
theorem heldInoS_any (v : Value) (ts : List V3) (xs : List Ino) (S : Nat → Prop) (k : Nat) (w : World) (h : GO KI w S v ts (mkL szI mkI k xs)) (hk : cnt szI k xs ≤ 100000000000000) :
    Calls Tryz.prog 29 #[v, .int .i64 k] w fun e w' => e = .returned (.int .i64 (cnt szI k xs : Nat)) ∧ Below w.heap.size w w' := by
  have hlen : k + xs.length ≤ cnt szI k xs := cnt_len (fun x => by simp [szI]; omega) k xs
  obtain ⟨a1, c1, rfl⟩ := h.form
  rw [mkL_length] at *
  have HG := hide h
  have HK := hide hk
  clear h
  go_enter Tryz.func29, Tryz.ntmps29
  go_wp2
  go_loopw [1, 5] (fun x i wr => ∃ j : Nat, j ≤ xs.length ∧ i = .int .i64 j ∧ x = .int .i64 (cnt szI k (xs.take j) : Nat) ∧ Hid (Below w.heap.size w wr)) (fun _ i _ => xs.length - (intOf i).toNat)
  case atStart => exact ⟨0, Nat.zero_le _, rfl, rfl, Below.refl _ _⟩
  case round =>
    obtain ⟨j, hj, rfl, rfl, HC⟩ := hrel
    by_cases hlt : j < xs.length
    · have hts := HG.out.below HC.out (Nat.le_refl _)
      have hl2 : ts.length = xs.length := by rw [hts.len, mkL_length]
      have hj2 : j < ts.length := by omega
      obtain ⟨g, c2, e1, k1, k2, k3, k4, k5, -⟩ := hts.row.at j hj2
      simp only [Value.slice.injEq] at e1
      obtain ⟨rfl, -, rfl⟩ := e1
      have hin := hts.inn j hj2 (by rw [mkL_length]; exact hlt)
      rw [mkL_at k j xs hlt] at hin
      obtain ⟨i1, i2, i3⟩ := hin
      obtain ⟨p, hp⟩ : ∃ p, ts[j].2.2 = p := ⟨_, rfl⟩
      rw [i1] at k1
      rw [i2] at k2
      rw [hp] at k3 i3
      have hcle := cnt_le (sz := szI) k xs j hlt
      have hcs := cnt_succ (sz := szI) k xs j hlt
      obtain ⟨n, hn⟩ : ∃ n, xs[j].2.2.length = n := ⟨_, rfl⟩
      have hszj : szI xs[j] = 2 + n := by rw [← hn]; rfl
      rw [hszj] at hcle hcs
      obtain ⟨K, hK⟩ : ∃ K : Nat, cnt szI k (xs.take j) = K := ⟨_, rfl⟩
      rw [hK] at hcle hcs k1 k2 i3 ⊢
      have k1' : wr.cell? ⟨g, j * 3, none⟩ = some (.int .i64 (K : Int)) := k1
      have k2' : wr.cell? ⟨g, j * 3 + 1, none⟩ = some (.int .i64 ((K : Int) + 1)) := k2
      have i3' : ROwns wr 0 3 p (ic (marksI (K + 2) n)) := by rw [← hn]; exact i3
      have hK1 : K + (2 + n) ≤ 100000000000000 := Nat.le_trans hcle hk
      have HO := hide i3'
      have HCS := hide hcs
      have j0 : (0 : Int) ≤ (j : Int) := by omega
      have j1 : (j : Int) < (xs.length : Int) := by omega
      clear hts hp hcle hszj hK i1 i2 i3 i3' hcs k4 hl2 hj2 k1 k2 hn
      go_wp2_with (go_at_call 61; refine (heldI_any p n 0 (K + 2) _ HO.out (by omega) (by omega)).mono ?_; rintro e w1 ⟨rfl, B1⟩; have H1 := hide (HC.out.trans (B1.mono HC.out.size)); clear B1; have hK3 : ¬ (((K + 2 + n : Nat) : Int) < 0) := by omega)
      go_roundw
      case rel => exact ⟨j + 1, by omega, by go_num, by rw [HCS.out]; go_num, H1.out⟩
      case measure => simp [intOf]; omega
    · have hjl : j = xs.length := by omega
      have HJ := hide hjl
      clear hjl
      go_wp2
      go_ret
      exact ⟨by rw [HJ.out, cnt_all]; rfl, HC.out⟩
set_option maxRecDepth 100000 in
set_option maxHeartbeats 1600000 in
theorem heldBlkS_any (v : Value) (ts : List V3) (xs : List Blk) (S : Nat → Prop) (k : Nat) (w : World) (h : GO KB w S v ts (mkL szB mkB k xs)) (hk0 : 1 ≤ k) (hk : cnt szB k xs ≤ 100000000000000) :
    Calls Tryz.prog 30 #[v, .int .i64 k] w fun e w' => e = .returned (.int .i64 (cnt szB k xs : Nat)) ∧ Below w.heap.size w w' := by
  have hlen : k + xs.length ≤ cnt szB k xs := cnt_len (fun x => by simp [szB]; omega) k xs
  obtain ⟨a1, c1, rfl⟩ := h.form
  rw [mkL_length] at *
  have HG := hide h
  have HK := hide hk
  clear h
  go_enter Tryz.func30, Tryz.ntmps30
  go_wp2
  go_loopw [1, 5] (fun x i wr => ∃ j : Nat, j ≤ xs.length ∧ i = .int .i64 j ∧ x = .int .i64 (cnt szB k (xs.take j) : Nat) ∧ Hid (Below w.heap.size w wr)) (fun _ i _ => xs.length - (intOf i).toNat)
  case atStart => exact ⟨0, Nat.zero_le _, rfl, rfl, Below.refl _ _⟩
  case round =>
    obtain ⟨j, hj, rfl, rfl, HC⟩ := hrel
    by_cases hlt : j < xs.length
    · have hts := HG.out.below HC.out (Nat.le_refl _)
      have hl2 : ts.length = xs.length := by rw [hts.len, mkL_length]
      have hj2 : j < ts.length := by omega
      obtain ⟨g, c2, e1, k1, k2, k3, k4, k5, -⟩ := hts.row.at j hj2
      simp only [Value.slice.injEq] at e1
      obtain ⟨rfl, -, rfl⟩ := e1
      have hin := hts.inn j hj2 (by rw [mkL_length]; exact hlt)
      rw [mkL_at k j xs hlt] at hin
      obtain ⟨i1, i2, i3⟩ := hin
      obtain ⟨p, hp⟩ : ∃ p, ts[j].2.1 = p := ⟨_, rfl⟩
      rw [i1] at k1
      rw [i3] at k3
      rw [hp] at k2 i2
      have hcle := cnt_le (sz := szB) k xs j hlt
      have hcs := cnt_succ (sz := szB) k xs j hlt
      have hK2 := cnt_ge (sz := szB) k (xs.take j)
      obtain ⟨n, hn⟩ : ∃ n, xs[j].2.1.length = n := ⟨_, rfl⟩
      have hszj : szB xs[j] = 2 + n * 2 := by rw [← hn]; rfl
      rw [hszj] at hcle hcs
      obtain ⟨K, hK⟩ : ∃ K : Nat, cnt szB k (xs.take j) = K := ⟨_, rfl⟩
      rw [hK] at hcle hcs k1 k3 i2 hK2 ⊢
      have k1' : wr.cell? ⟨g, j * 3, none⟩ = some (.bool ((K : Int) % 3 == 0)) := by rw [← mk3_int]; exact k1
      have k3' : wr.cell? ⟨g, j * 3 + 2, none⟩ = some (.string (mkT (K + 1 + n * 2))) := by rw [← hn]; exact k3
      have i2' : SOwns wr 0 74 p (mkS (K + 1) n) := by rw [← hn]; exact i2
      have hK1 : K + (2 + n * 2) ≤ 100000000000000 := Nat.le_trans hcle hk
      have HO := hide i2'
      have HCS := hide hcs
      have HX : Hid (∀ w', Below wr.heap.size wr w' → w'.cell? ⟨g, j * 3 + 2, none⟩ = some (.string (mkT (K + 1 + n * 2)))) := fun w' hb => (hb.cell (p := ⟨g, j * 3 + 2, none⟩) k5).trans k3'
      have j0 : (0 : Int) ≤ (j : Int) := by omega
      have j1 : (j : Int) < (xs.length : Int) := by omega
      clear hts hp hcle hszj hK i1 i2 i3 i2' hcs k4 hl2 hj2 k1 k3 k3' hn
      go_wp2_with (go_at_call 62; refine (heldS_any p n 0 (K + 1) _ HO.out (by omega) (by omega) (by omega)).mono ?_; rintro e w1 ⟨rfl, B1⟩; have H1 := hide B1; clear B1; have hK3 : ¬ (((K + 1 + n * 2 : Nat) : Int) < 0) := by omega)
      have BB := H1.out.drew
      have y0 := HX.out _ H1.out
      have tt : ((mkT (K + 1 + n * 2)).toList == (mkT (K + 1 + n * 2)).toList) = true := by simp
      go_region_held3 (fun w' => w'.cell? ⟨g, j * 3 + 2, none⟩ = some (.string (mkT (K + 1 + n * 2)))) (first | exact HX.out _ BB | exact HX.out _ (BB.trans (B6.mono BB.size))) ((go_at_call 59; refine (markText_any (K + 1 + n * 2) _ (by omega) (by omega)).mono ?_; rintro e w6 ⟨rfl, B6⟩))
      have H6 := hide (HC.out.trans ((BB.trans (B6.mono BB.size)).mono HC.out.size))
      clear BB B6
      go_wp2
      go_roundw
      case rel => exact ⟨j + 1, by omega, by go_num, by rw [HCS.out]; go_num, H6.out⟩
      case measure => simp [intOf]; omega
    · have hjl : j = xs.length := by omega
      have HJ := hide hjl
      clear hjl
      go_wp2
      go_ret
      exact ⟨by rw [HJ.out, cnt_all]; rfl, HC.out⟩
end Go.Proofs.YtbebgnknjoclkaaGreat
/- Disks that are marked, and held against their marks: laws.markDisk, laws.heldDisk by their contracts. -/
namespace Go.Proofs.YtbebgnknjoclkaaGreat
open Go.RowKit Kit
/-- The number behind a marked disk. -/
def cntD (k : Nat) (xs ys : List Bool) (is : List Ino) (bs : List Blk) : Nat := cnt szB (cnt szI (k + xs.length + ys.length) is) bs
/-- A disk of memory of its own, all of whose parts are marked from k on. -/
def DM (w : World) (S : Nat → Prop) (u v iv bv : Value) (k : Nat) (xs ys : List Bool) (is : List Ino) (bs : List Blk) : Prop :=
  DO w S u v iv bv (marksB k xs.length) (marksB (k + xs.length) ys.length) (mkL szI mkI (k + xs.length + ys.length) is) (mkL szB mkB (cnt szI (k + xs.length + ys.length) is) bs)
set_option maxRecDepth 100000 in
set_option maxHeartbeats 1600000 in
theorem markDisk_any (u v iv bv : Value) (xs ys : List Bool) (is : List Ino) (bs : List Blk) (S : Nat → Prop) (k : Nat) (w : World) (h : DO w S u v iv bv xs ys is bs) (hk0 : 1 ≤ k) (hk : cntD k xs ys is bs ≤ 100000000000000) :
    Calls Tryz.prog 9 #[.agg #[u, v, iv, bv], .int .i64 k] w fun e w' => e = .returned (.int .i64 (cntD k xs ys is bs : Nat)) ∧ DM w' S u v iv bv k xs ys is bs ∧ Chg S w w' := by
  have HF := hide h.dr.form
  obtain ⟨S1, S2, S3, ti, tb, hT, hs1, hi, hb, d1, d2, hU⟩ := h
  have hc1 : cnt szI (k + xs.length + ys.length) is ≤ 100000000000000 := Nat.le_trans (cnt_ge _ _) hk
  have hc0 : k + xs.length + ys.length ≤ 100000000000000 := Nat.le_trans (cnt_ge _ _) hc1
  obtain ⟨K1, hK1⟩ : ∃ K, k + xs.length + ys.length = K := ⟨_, rfl⟩
  obtain ⟨K2, hK2⟩ : ∃ K, cnt szI K1 is = K := ⟨_, rfl⟩
  have hg1 : K1 ≤ K2 := by rw [← hK2]; exact cnt_ge _ _
  have hkb : cnt szB K2 bs ≤ 100000000000000 := by rw [← hK2, ← hK1]; exact hk
  have hCD : cntD k xs ys is bs = cnt szB K2 bs := by rw [cntD, hK1, hK2]
  have HDM : Hid (∀ w', DO w' S u v iv bv (marksB k xs.length) (marksB (k + xs.length) ys.length) (mkL szI mkI K1 is) (mkL szB mkB K2 bs) → DM w' S u v iv bv k xs ys is bs) := fun w' hd => by rw [DM, hK1, hK2]; exact hd
  rw [hK1] at hc1 hc0
  rw [hCD]
  have C1 := hide (fun W h => markN_any u v xs ys 0 k W h (by omega) (by omega) (by omega))
  rw [hK1] at C1
  have C2 := hide (fun W h => markInoS_any iv ti is (fun m => S2 m ∧ m < w.heap.size) K1 W h hc1)
  rw [hK2] at C2
  have C3 := hide (fun W h => markBlkS_any bv tb bs (fun m => S3 m ∧ m < w.heap.size) K2 W h (by omega) hkb)
  generalize cnt szB K2 bs = K3 at *
  have HT := hide hT
  have HI := hide hi.bound
  have HB := hide hb.bound
  have HS := hide (And.intro hs1 (And.intro d1 (And.intro d2 hU)))
  have h12 : ∀ m, (u.ownBlock = some m ∨ v.ownBlock = some m) → m < w.heap.size := fun m hm => hm.elim (fun e => (hT.a.lt m e).2) (fun e => (hT.b.lt m e).2)
  have HL := hide h12
  clear hT hi hb hs1 d1 d2 hU h12 hk hkb hCD hK1 hK2
  obtain ⟨a1, c1, a2, c2, a3, c3, a4, c4, rfl, rfl, rfl, rfl⟩ := HF.out
  go_enter Tryz.func9, Tryz.ntmps9
  go_wp2_with fail
  refine (C1.out _ (HT.out.alloc _)).mono ?_
  rintro e w1 ⟨rfl, T1, G1⟩
  have bx1 : AtC w1 w.heap.size 34 #[.slice a1 xs.length c1, .slice a2 ys.length c2, .slice a3 is.length c3, .slice a4 bs.length c4] := (G1.block w.heap.size (by simp) (fun e => Nat.lt_irrefl _ (HL.out _ (.inl e))) (fun e => Nat.lt_irrefl _ (HL.out _ (.inr e)))).trans (AtC.new w 34 _)
  have z1 : w.heap.size + 1 ≤ w1.heap.size := by have := G1.size; simpa using this
  have I1 := (HI.out.alloc (.cells #[.slice a1 xs.length c1, .slice a2 ys.length c2, .slice a3 is.length c3, .slice a4 bs.length c4] 34)).of_heap (w' := w1) fun m hm hlt => G1.block m hlt (fun e => (HS.out.2.1 m (HS.out.1 m (.inl e))).1 hm.1) (fun e => (HS.out.2.1 m (HS.out.1 m (.inr e))).1 hm.1)
  have J1 := (HB.out.alloc (.cells #[.slice a1 xs.length c1, .slice a2 ys.length c2, .slice a3 is.length c3, .slice a4 bs.length c4] 34)).of_heap (w' := w1) fun m hm hlt => G1.block m hlt (fun e => (HS.out.2.1 m (HS.out.1 m (.inl e))).2 hm.1) (fun e => (HS.out.2.1 m (HS.out.1 m (.inr e))).2 hm.1)
  have ch1 : Chg S w w1 := (Chg.of_below ((Below.refl _ w).alloc (Nat.le_refl _) _)).trans (Chg.of_g2 G1 (fun m e => HS.out.2.2.2 m (.inl (HS.out.1 m (.inl e)))) (fun m e => HS.out.2.2.2 m (.inl (HS.out.1 m (.inr e)))))
  have q2 : w1.cell? ⟨w.heap.size, 2, none⟩ = some (.slice a3 is.length c3) := bx1.cell 2
  have H1 := hide (And.intro bx1 (And.intro I1 (And.intro J1 (And.intro ch1 (And.intro z1 T1)))))
  clear bx1 I1 J1 ch1 z1 G1 T1 C1
  go_wp2_with fail
  refine (C2.out _ H1.out.2.1).mono ?_
  rintro e w2 ⟨ti2, rfl, I2, ch2⟩
  have bx2 : AtC w2 w.heap.size 34 #[.slice a1 xs.length c1, .slice a2 ys.length c2, .slice a3 is.length c3, .slice a4 bs.length c4] := (ch2.block w.heap.size (by have := H1.out.2.2.2.2.1; omega) (fun e => Nat.lt_irrefl _ e.2)).trans H1.out.1
  have J2 := H1.out.2.2.1.of_heap (w' := w2) fun m hm hlt => ch2.block m hlt (fun e => HS.out.2.2.1 m e.1 hm.1)
  have T2 : Two w2 0 (.slice a1 xs.length c1) (.slice a2 ys.length c2) (marksB k xs.length) (marksB (k + xs.length) ys.length) :=
    ⟨H1.out.2.2.2.2.2.a.of_heap fun m hm => ch2.block m (H1.out.2.2.2.2.2.a.lt m hm).2 (fun e => (HS.out.2.1 m (HS.out.1 m (.inl hm))).1 e.1), H1.out.2.2.2.2.2.b.of_heap fun m hm => ch2.block m (H1.out.2.2.2.2.2.b.lt m hm).2 (fun e => (HS.out.2.1 m (HS.out.1 m (.inr hm))).1 e.1), H1.out.2.2.2.2.2.ne⟩
  have chg2 : Chg S w w2 := H1.out.2.2.2.1.trans (ch2.mono fun m e => HS.out.2.2.2 m (.inr (.inl e.1)))
  have z2 : w.heap.size + 1 ≤ w2.heap.size := Nat.le_trans H1.out.2.2.2.2.1 ch2.size
  have q3 : w2.cell? ⟨w.heap.size, 3, none⟩ = some (.slice a4 bs.length c4) := bx2.cell 3
  have H2 := hide (And.intro I2 (And.intro J2 (And.intro chg2 (And.intro z2 T2))))
  clear bx2 I2 J2 chg2 z2 T2 ch2 C2 H1
  go_wp2_with fail
  refine (C3.out _ H2.out.2.1).mono ?_
  rintro e w3 ⟨tb2, rfl, J3, ch3⟩
  have I3 := H2.out.1.of_heap (w' := w3) fun m hm hlt => ch3.block m hlt (fun e => HS.out.2.2.1 m hm.1 e.1)
  have T3 : Two w3 0 (.slice a1 xs.length c1) (.slice a2 ys.length c2) (marksB k xs.length) (marksB (k + xs.length) ys.length) :=
    ⟨H2.out.2.2.2.2.a.of_heap fun m hm => ch3.block m (H2.out.2.2.2.2.a.lt m hm).2 (fun e => (HS.out.2.1 m (HS.out.1 m (.inl hm))).2 e.1), H2.out.2.2.2.2.b.of_heap fun m hm => ch3.block m (H2.out.2.2.2.2.b.lt m hm).2 (fun e => (HS.out.2.1 m (HS.out.1 m (.inr hm))).2 e.1), H2.out.2.2.2.2.ne⟩
  have H3 := hide (And.intro (HDM.out w3 ⟨S1, _, _, ti2, tb2, T3, HS.out.1, I3, J3, fun m hm => ⟨fun e => (HS.out.2.1 m hm).1 e.1, fun e => (HS.out.2.1 m hm).2 e.1⟩, fun m hm e => HS.out.2.2.1 m hm.1 e.1, fun m hm => HS.out.2.2.2 m (hm.imp id (Or.imp And.left And.left))⟩) (H2.out.2.2.1.trans (ch3.mono fun m e => HS.out.2.2.2 m (.inr (.inr e.1)))))
  clear I3 T3 J3 ch3 C3 H2
  go_wp2
  go_ret
  exact ⟨rfl, H3.out⟩
set_option maxRecDepth 100000 in
set_option maxHeartbeats 1600000 in
theorem heldDisk_any (u v iv bv : Value) (xs ys : List Bool) (is : List Ino) (bs : List Blk) (S : Nat → Prop) (k : Nat) (w : World) (h : DM w S u v iv bv k xs ys is bs) (hk0 : 1 ≤ k) (hk : cntD k xs ys is bs ≤ 100000000000000) :
    Calls Tryz.prog 10 #[.agg #[u, v, iv, bv], .int .i64 k] w fun e w' => e = .returned (.int .i64 (cntD k xs ys is bs : Nat)) ∧ Below w.heap.size w w' := by
  have HF := hide h.dr.form
  obtain ⟨S1, S2, S3, ti, tb, hT, hs1, hi, hb, d1, d2, hU⟩ := h
  have hc1 : cnt szI (k + xs.length + ys.length) is ≤ 100000000000000 := Nat.le_trans (cnt_ge _ _) hk
  have hc0 : k + xs.length + ys.length ≤ 100000000000000 := Nat.le_trans (cnt_ge _ _) hc1
  obtain ⟨K1, hK1⟩ : ∃ K, k + xs.length + ys.length = K := ⟨_, rfl⟩
  obtain ⟨K2, hK2⟩ : ∃ K, cnt szI K1 is = K := ⟨_, rfl⟩
  have hg1 : K1 ≤ K2 := by rw [← hK2]; exact cnt_ge _ _
  have hkb : cnt szB K2 bs ≤ 100000000000000 := by rw [← hK2, ← hK1]; exact hk
  have hCD : cntD k xs ys is bs = cnt szB K2 bs := by rw [cntD, hK1, hK2]
  rw [hK1] at hc1 hc0 hi hb
  rw [hK2] at hb
  rw [hCD]
  have C1 := hide (fun W h => heldN_any u v xs.length ys.length 0 k W h (by omega) (by omega) (by omega))
  rw [hK1] at C1
  have C2 := hide (fun W h => heldInoS_any iv ti is S2 K1 W h hc1)
  rw [hK2] at C2
  have C3 := hide (fun W h => heldBlkS_any bv tb bs S3 K2 W h (by omega) hkb)
  have hg2 : K2 ≤ cnt szB K2 bs := cnt_ge _ _
  generalize cnt szB K2 bs = K3 at *
  have HT := hide hT
  have HI := hide hi
  have HB := hide hb
  clear hT hi hb hs1 d1 d2 hU hk hkb hCD hK1 hK2
  obtain ⟨a1, c1, a2, c2, a3, c3, a4, c4, rfl, rfl, rfl, rfl⟩ := HF.out
  generalize (marksB k xs.length).length = l1 at *
  generalize (marksB (k + xs.length) ys.length).length = l2 at *
  generalize (mkL szI mkI (k + xs.length + ys.length) is).length = l3 at *
  generalize (mkL szB mkB (cnt szI (k + xs.length + ys.length) is) bs).length = l4 at *
  have n1 : ¬ ((K1 : Int) < 0) := by omega
  have n2 : ¬ ((K2 : Int) < 0) := by omega
  have n3 : ¬ ((K3 : Int) < 0) := by omega
  go_enter Tryz.func10, Tryz.ntmps10
  go_wp2_with fail
  refine (C1.out _ (HT.out.alloc _)).mono ?_
  rintro e w1 ⟨rfl, B1⟩
  have bx1 : AtC w1 w.heap.size 34 #[.slice a1 l1 c1, .slice a2 l2 c2, .slice a3 l3 c3, .slice a4 l4 c4] := (AtC.new w 34 _).over B1
  have b1 : Below w.heap.size w w1 := ((Below.refl _ w).alloc (Nat.le_refl _) _).trans (B1.mono (by simp))
  have q2 : w1.cell? ⟨w.heap.size, 2, none⟩ = some (.slice a3 l3 c3) := bx1.cell 2
  have H1 := hide (And.intro bx1 b1)
  clear bx1 b1 B1 C1
  go_wp2_with fail
  refine (C2.out _ (HI.out.below H1.out.2 (Nat.le_refl _))).mono ?_
  rintro e w2 ⟨rfl, B2⟩
  have bx2 := H1.out.1.over B2
  have b2 := H1.out.2.trans (B2.mono H1.out.2.size)
  have q3 : w2.cell? ⟨w.heap.size, 3, none⟩ = some (.slice a4 l4 c4) := bx2.cell 3
  have H2 := hide b2
  clear bx2 b2 B2 C2 H1
  go_wp2_with fail
  refine (C3.out _ (HB.out.below H2.out (Nat.le_refl _))).mono ?_
  rintro e w3 ⟨rfl, B3⟩
  have H3 := hide (H2.out.trans (B3.mono H2.out.size))
  clear B3 C3 H2
  go_wp2
  go_ret
  exact ⟨rfl, H3.out⟩
end Go.Proofs.YtbebgnknjoclkaaGreat
/- Marks of what is not too big are small. No Go function is spoken of. -/
namespace Go.Proofs.YtbebgnknjoclkaaGreat.Kit
open Go.RowKit
theorem cnt_big {α : Type} {sz : α → Nat} {M : Nat} (k : Nat) (l : List α) (h : ∀ (j : Nat) (h : j < l.length), sz l[j] ≤ M) : cnt sz k l ≤ k + l.length * M := by
  induction l generalizing k with
  | nil => simp [cnt]
  | cons x r ih =>
    have h0 := h 0 (by simp)
    have := ih (k + sz x) (fun j hj => h (j + 1) (by simpa using hj))
    simp only [cnt, List.length_cons, Nat.add_mul] at this ⊢
    simp only [List.getElem_cons_zero] at h0
    omega
/-- Marks of a disk that is not too big are small. -/
theorem cntD_big {xs ys : List Bool} {is : List Ino} {bs : List Blk} (h : Big 1048576 xs ys is bs) : cntD 1 xs ys is bs ≤ 10000000000000 := by
  have h1 := cnt_big (sz := szI) (M := 1048578) (1 + xs.length + ys.length) is (fun j hj => by have := h.p j hj; unfold szI; omega)
  have h2 := cnt_big (sz := szB) (M := 2097154) (cnt szI (1 + xs.length + ys.length) is) bs (fun j hj => by have := (h.s j hj).1; unfold szB; omega)
  have h3 : is.length * 1048578 ≤ 1048576 * 1048578 := Nat.mul_le_mul_right _ h.i
  have h4 : bs.length * 2097154 ≤ 1048576 * 2097154 := Nat.mul_le_mul_right _ h.b
  have := h.x
  have := h.y
  unfold cntD
  omega
end Go.Proofs.YtbebgnknjoclkaaGreat.Kit
/- laws.eqInodeS, laws.eqBlockS and laws.eqDisk of the same parts, by their contracts. -/
namespace Go.Proofs.YtbebgnknjoclkaaGreat
open Go.RowKit Kit
set_option maxRecDepth 100000 in
set_option maxHeartbeats 1600000 in
theorem eqInoS_same (va vb : Value) (l : List Ino) (w : World) (ha : R3 KI w va l) (hb : R3 KI w vb l) (hl : l.length ≤ 1048576) (hp : ∀ (j : Nat) (h : j < l.length), l[j].2.2.length ≤ 1048576) :
    Calls Tryz.prog 23 #[va, vb] w fun e w' => e = .returned (.bool true) ∧ Below w.heap.size w w' := by
  obtain ⟨a1, c1, rfl, -, ha'⟩ := ha.ino
  obtain ⟨a2, c2, rfl, -, hb'⟩ := hb.ino
  have HA := hide ha'
  have HB := hide hb'
  have HP := hide hp
  clear ha hb hp ha' hb'
  go_enter Tryz.func23, Tryz.ntmps23
  go_wp2
  go_loopw [5] (fun i wr => ∃ j : Nat, j ≤ l.length ∧ i = .int .i64 j ∧ Below w.heap.size w wr) (fun i _ => l.length - (intOf i).toNat)
  case atStart => exact ⟨0, Nat.zero_le _, rfl, Below.refl _ _⟩
  case round =>
    obtain ⟨j, hj, rfl, hb⟩ := hrel
    by_cases hlt : j < l.length
    · obtain ⟨g1, o1, p1, rfl, hg1, m1, m2, m3, hr1⟩ := HA.out j hlt
      obtain ⟨g2, o2, p2, rfl, hg2, n1, n2, n3, hr2⟩ := HB.out j hlt
      have hpl := HP.out j hlt
      obtain ⟨x, hx⟩ : ∃ x, l[j] = x := ⟨_, rfl⟩
      obtain ⟨y, s, z⟩ := x
      rw [hx] at m1 m2 n1 n2 hr1 hr2 hpl
      obtain ⟨pa, pc, rfl⟩ := hr1.form
      obtain ⟨pb, pd, rfl⟩ := hr2.form
      simp only at m1 m2 m3 n1 n2 n3 hr1 hr2 hpl
      have HS : Hid (∀ w', Below w.heap.size w w' → w'.cell? ⟨g1, o1 + j * 3, none⟩ = some (.int .i64 y) ∧ w'.cell? ⟨g1, o1 + j * 3 + 1, none⟩ = some (.int .i64 s) ∧ w'.cell? ⟨g1, o1 + j * 3 + 2, none⟩ = some (.slice pa z.length pc) ∧ w'.cell? ⟨g2, o2 + j * 3, none⟩ = some (.int .i64 y) ∧ w'.cell? ⟨g2, o2 + j * 3 + 1, none⟩ = some (.int .i64 s) ∧ w'.cell? ⟨g2, o2 + j * 3 + 2, none⟩ = some (.slice pb z.length pd)) := fun w' hb =>
        ⟨(hb.cell (p := ⟨g1, o1 + j * 3, none⟩) hg1).trans m1, (hb.cell (p := ⟨g1, o1 + j * 3 + 1, none⟩) hg1).trans m2, (hb.cell (p := ⟨g1, o1 + j * 3 + 2, none⟩) hg1).trans m3, (hb.cell (p := ⟨g2, o2 + j * 3, none⟩) hg2).trans n1, (hb.cell (p := ⟨g2, o2 + j * 3 + 1, none⟩) hg2).trans n2, (hb.cell (p := ⟨g2, o2 + j * 3 + 2, none⟩) hg2).trans n3⟩
      have HR : Hid (∀ w', Below w.heap.size w w' → RInts w' (.slice pa z.length pc) z ∧ RInts w' (.slice pb z.length pd) z) := fun w' hb => ⟨hr1.below hb (Nat.le_refl _), hr2.below hb (Nat.le_refl _)⟩
      have HPL : Hid (z.length ≤ 1000000000) := Nat.le_trans hpl (by decide)
      clear hx m1 m2 m3 n1 n2 n3 hr1 hr2 hpl
      obtain ⟨r1, r2, r3, r4, r5, r6⟩ := HS.out _ hb
      have j0 : (0 : Int) ≤ (j : Int) := by omega
      have j1 : (j : Int) < (l.length : Int) := by omega
      have hsz := hb.size
      have HBB := hide hb
      clear hb
      go_wp2_with fail
      go_region_held3 (fun w' => w'.cell? ⟨g1, o1 + j * 3, none⟩ = some (.int .i64 y) ∧ w'.cell? ⟨g1, o1 + j * 3 + 1, none⟩ = some (.int .i64 s) ∧ w'.cell? ⟨g1, o1 + j * 3 + 2, none⟩ = some (.slice pa z.length pc) ∧ w'.cell? ⟨g2, o2 + j * 3, none⟩ = some (.int .i64 y) ∧ w'.cell? ⟨g2, o2 + j * 3 + 1, none⟩ = some (.int .i64 s) ∧ w'.cell? ⟨g2, o2 + j * 3 + 2, none⟩ = some (.slice pb z.length pd)) (first | exact HS.out _ HBB.out.drew | exact HS.out _ (HBB.out.trans ((of_drew B6).mono hsz))) ((go_at_call 54; refine (eqN_sameI _ _ _ _ z _ (HR.out _ HBB.out.drew).1 (HR.out _ HBB.out.drew).2 HPL.out).mono ?_; rintro e w6 ⟨rfl, B6⟩))
      have HB2 := hide (HBB.out.trans ((of_drew B6).mono hsz))
      clear B6
      go_wp2
      go_roundw
      case rel => exact ⟨j + 1, by omega, by go_num, HB2.out⟩
      case measure => simp [intOf]; omega
    · have HBB := hide hb
      clear hb
      go_wp2
      go_ret
      exact ⟨rfl, HBB.out⟩
set_option maxRecDepth 100000 in
set_option maxHeartbeats 1600000 in
theorem eqBlkS_same (va vb : Value) (l : List Blk) (w : World) (ha : R3 KB w va l) (hb : R3 KB w vb l) (hl : l.length ≤ 1048576) (hp : ∀ (j : Nat) (h : j < l.length), l[j].2.1.length ≤ 1048576) :
    Calls Tryz.prog 24 #[va, vb] w fun e w' => e = .returned (.bool true) ∧ Below w.heap.size w w' := by
  obtain ⟨a1, c1, rfl, -, ha'⟩ := ha.blk
  obtain ⟨a2, c2, rfl, -, hb'⟩ := hb.blk
  have HA := hide ha'
  have HB := hide hb'
  have HP := hide hp
  clear ha hb hp ha' hb'
  go_enter Tryz.func24, Tryz.ntmps24
  go_wp2
  go_loopw [5] (fun i wr => ∃ j : Nat, j ≤ l.length ∧ i = .int .i64 j ∧ Below w.heap.size w wr) (fun i _ => l.length - (intOf i).toNat)
  case atStart => exact ⟨0, Nat.zero_le _, rfl, Below.refl _ _⟩
  case round =>
    obtain ⟨j, hj, rfl, hb⟩ := hrel
    by_cases hlt : j < l.length
    · obtain ⟨g1, o1, p1, rfl, hg1, m1, m2, m3, hr1⟩ := HA.out j hlt
      obtain ⟨g2, o2, p2, rfl, hg2, n1, n2, n3, hr2⟩ := HB.out j hlt
      have hpl := HP.out j hlt
      obtain ⟨x, hx⟩ : ∃ x, l[j] = x := ⟨_, rfl⟩
      obtain ⟨y, s, z⟩ := x
      rw [hx] at m1 m3 n1 n3 hr1 hr2 hpl
      obtain ⟨pa, pc, rfl⟩ := hr1.form
      obtain ⟨pb, pd, rfl⟩ := hr2.form
      simp only at m1 m2 m3 n1 n2 n3 hr1 hr2 hpl
      have HS : Hid (∀ w', Below w.heap.size w w' → w'.cell? ⟨g1, o1 + j * 3, none⟩ = some (.bool y) ∧ w'.cell? ⟨g1, o1 + j * 3 + 1, none⟩ = some (.slice pa s.length pc) ∧ w'.cell? ⟨g1, o1 + j * 3 + 2, none⟩ = some (.string z) ∧ w'.cell? ⟨g2, o2 + j * 3, none⟩ = some (.bool y) ∧ w'.cell? ⟨g2, o2 + j * 3 + 1, none⟩ = some (.slice pb s.length pd) ∧ w'.cell? ⟨g2, o2 + j * 3 + 2, none⟩ = some (.string z)) := fun w' hb =>
        ⟨(hb.cell (p := ⟨g1, o1 + j * 3, none⟩) hg1).trans m1, (hb.cell (p := ⟨g1, o1 + j * 3 + 1, none⟩) hg1).trans m2, (hb.cell (p := ⟨g1, o1 + j * 3 + 2, none⟩) hg1).trans m3, (hb.cell (p := ⟨g2, o2 + j * 3, none⟩) hg2).trans n1, (hb.cell (p := ⟨g2, o2 + j * 3 + 1, none⟩) hg2).trans n2, (hb.cell (p := ⟨g2, o2 + j * 3 + 2, none⟩) hg2).trans n3⟩
      have HR : Hid (∀ w', Below w.heap.size w w' → RSl w' (.slice pa s.length pc) s ∧ RSl w' (.slice pb s.length pd) s) := fun w' hb => ⟨hr1.below hb (Nat.le_refl _), hr2.below hb (Nat.le_refl _)⟩
      have HPL := hide hpl
      clear hx m1 m2 m3 n1 n2 n3 hr1 hr2 hpl
      obtain ⟨r1, r2, r3, r4, r5, r6⟩ := HS.out _ hb
      have j0 : (0 : Int) ≤ (j : Int) := by omega
      have j1 : (j : Int) < (l.length : Int) := by omega
      have hsz := hb.size
      have HBB := hide hb
      clear hb
      go_wp2_with fail
      go_region_held3 (fun w' => w'.cell? ⟨g1, o1 + j * 3, none⟩ = some (.bool y) ∧ w'.cell? ⟨g1, o1 + j * 3 + 1, none⟩ = some (.slice pa s.length pc) ∧ w'.cell? ⟨g1, o1 + j * 3 + 2, none⟩ = some (.string z) ∧ w'.cell? ⟨g2, o2 + j * 3, none⟩ = some (.bool y) ∧ w'.cell? ⟨g2, o2 + j * 3 + 1, none⟩ = some (.slice pb s.length pd) ∧ w'.cell? ⟨g2, o2 + j * 3 + 2, none⟩ = some (.string z)) (first | exact HS.out _ HBB.out.drew | exact HS.out _ (HBB.out.trans ((of_drew B6).mono hsz))) ((go_at_call 55; refine (eqB_sameK _ _ _ _ s _ (HR.out _ HBB.out.drew).1 (HR.out _ HBB.out.drew).2 HPL.out).mono ?_; rintro e w6 ⟨rfl, B6⟩))
      have HB2 := hide (HBB.out.trans ((of_drew B6).mono hsz))
      clear B6
      go_wp2
      go_roundw
      case rel => exact ⟨j + 1, by omega, by go_num, HB2.out⟩
      case measure => simp [intOf]; omega
    · have HBB := hide hb
      clear hb
      go_wp2
      go_ret
      exact ⟨rfl, HBB.out⟩
set_option maxRecDepth 100000 in
set_option maxHeartbeats 1600000 in
theorem eqDisk_same (u v iv bv u' v' i' b' : Value) (xs ys : List Bool) (is : List Ino) (bs : List Blk) (w : World) (h : DR w u v iv bv xs ys is bs) (h' : DR w u' v' i' b' xs ys is bs) (hB : Big 1048576 xs ys is bs) :
    Calls Tryz.prog 8 #[.agg #[u, v, iv, bv], .agg #[u', v', i', b']] w fun e w' => e = .returned (.bool true) ∧ Below w.heap.size w w' := by
  have H := hide h
  have H' := hide h'
  have HG := hide hB
  obtain ⟨a1, c1, a2, c2, a3, c3, a4, c4, rfl, rfl, rfl, rfl⟩ := h.form
  obtain ⟨d1, k1, d2, k2, d3, k3, d4, k4, rfl, rfl, rfl, rfl⟩ := h'.form
  clear h hB h'
  go_enter Tryz.func8, Tryz.ntmps8
  go_wp2_with fail
  refine (eqN_sameB _ _ _ _ xs ys _ ((H.out.a.alloc _).alloc _) ((H.out.b.alloc _).alloc _) ((H'.out.a.alloc _).alloc _) ((H'.out.b.alloc _).alloc _) (Nat.le_trans HG.out.x (by decide)) (Nat.le_trans HG.out.y (by decide))).mono ?_
  rintro e w1 ⟨rfl, B1⟩
  have BW : Below w.heap.size w w1 := (((Below.refl _ w).alloc (Nat.le_refl _) _).alloc (by simp) _).trans (B1.mono (by simp; omega))
  have K0 : AtC w1 w.heap.size 34 #[.slice a1 xs.length c1, .slice a2 ys.length c2, .slice a3 is.length c3, .slice a4 bs.length c4] := ((AtC.new w 34 _).alloc _).over B1
  have K1 : AtC w1 (w.heap.size + 1) 34 #[.slice d1 xs.length k1, .slice d2 ys.length k2, .slice d3 is.length k3, .slice d4 bs.length k4] := by
    have := (AtC.new (w.alloc (Obj.cells #[.slice a1 xs.length c1, .slice a2 ys.length c2, .slice a3 is.length c3, .slice a4 bs.length c4] 34)) 34 #[.slice d1 xs.length k1, .slice d2 ys.length k2, .slice d3 is.length k3, .slice d4 bs.length k4]).over B1
    simpa using this
  have p2 : w1.cell? ⟨w.heap.size, 2, none⟩ = some (.slice a3 is.length c3) := K0.cell 2
  have q2 : w1.cell? ⟨w.heap.size + 1, 2, none⟩ = some (.slice d3 is.length k3) := K1.cell 2
  have HBW := hide BW
  have HK0 := hide K0
  have HK1 := hide K1
  clear B1 BW K0 K1
  go_wp2_with fail
  refine (eqInoS_same _ _ is _ (H.out.i.below HBW.out (Nat.le_refl _)) (H'.out.i.below HBW.out (Nat.le_refl _)) HG.out.i HG.out.p).mono ?_
  rintro e w2 ⟨rfl, B2⟩
  have BW2 := HBW.out.trans (B2.mono HBW.out.size)
  have K0 := HK0.out.over B2
  have K1 := HK1.out.over B2
  have p3 : w2.cell? ⟨w.heap.size, 3, none⟩ = some (.slice a4 bs.length c4) := K0.cell 3
  have q3 : w2.cell? ⟨w.heap.size + 1, 3, none⟩ = some (.slice d4 bs.length k4) := K1.cell 3
  have HBW2 := hide BW2
  clear B2 BW2 K0 K1 HBW
  go_wp2_with fail
  refine (eqBlkS_same _ _ bs _ (H.out.k.below HBW2.out (Nat.le_refl _)) (H'.out.k.below HBW2.out (Nat.le_refl _)) HG.out.b (fun j hj => (HG.out.s j hj).1)).mono ?_
  rintro e w3 ⟨rfl, B3⟩
  have HBW3 := hide (HBW2.out.trans (B3.mono HBW2.out.size))
  clear B3
  go_wp2
  go_ret
  exact ⟨rfl, HBW3.out⟩
end Go.Proofs.YtbebgnknjoclkaaGreat
/- The walk of laws.FnExactMendAll: it returns true at every disk. -/
namespace Go.Proofs.YtbebgnknjoclkaaGreat.Kit
open Go.RowKit
theorem DO.bound {w : World} {S : Nat → Prop} {u v iv bv : Value} {xs ys : List Bool} {is : List Ino} {bs : List Blk} (h : DO w S u v iv bv xs ys is bs) : DO w (fun k => S k ∧ k < w.heap.size) u v iv bv xs ys is bs := by
  obtain ⟨ti, tb, hL⟩ := h.dl
  exact hL.bound.do_
end Go.Proofs.YtbebgnknjoclkaaGreat.Kit
namespace Go.Proofs.YtbebgnknjoclkaaGreat.fnExactMendAll
open Go.RowKit Kit
set_option maxRecDepth 100000 in
set_option maxHeartbeats 3200000 in
theorem walk (u v iv bv : Value) (xs ys : List Bool) (is : List Ino) (bs : List Blk) (w : World) (h : DR w u v iv bv xs ys is bs) (hB : Big maxLen xs ys is bs) :
    Calls Tryz.prog 3 #[.agg #[u, v, iv, bv]] w fun e w' => e = .returned (.bool true) ∧ Below w.heap.size w w' := by
  have HV := hide h
  have HG := hide hB
  obtain ⟨a1, c1, a2, c2, a3, c3, a4, c4, rfl, rfl, rfl, rfl⟩ := h.form
  clear h hB
  go_enter Tryz.func3, Tryz.ntmps3
  go_wp2_with fail
  refine (szDisk_L _ _ _ _ xs ys is bs _ _ (HV.out.alloc _).a (HV.out.alloc _).b (HV.out.alloc _).i (HV.out.alloc _).k (by omega) (by omega) HG.out).mono ?_
  rintro e w1 ⟨left, rfl, hL, B1⟩
  have X1 : AtC w1 w.heap.size 28 #[.slice a1 xs.length c1, .slice a2 ys.length c2, .slice a3 is.length c3, .slice a4 bs.length c4] := (AtC.new w 28 _).over B1
  have b1 : Below w.heap.size w w1 := ((Below.refl _ w).alloc (Nat.le_refl _) _).trans (B1.mono (by simp))
  have x0 : w1.cell? ⟨w.heap.size, 0, none⟩ = some (.slice a1 xs.length c1) := X1.cell 0
  have x1 : w1.cell? ⟨w.heap.size, 1, none⟩ = some (.slice a2 ys.length c2) := X1.cell 1
  have x2 : w1.cell? ⟨w.heap.size, 2, none⟩ = some (.slice a3 is.length c3) := X1.cell 2
  have x3 : w1.cell? ⟨w.heap.size, 3, none⟩ = some (.slice a4 bs.length c4) := X1.cell 3
  have H1 := hide (And.intro X1 b1)
  have HL := hide hL
  have hL1 : -1 ≤ left := by rcases hL with h | h <;> omega
  clear B1 X1 b1 hL
  by_cases hneg : left < 0
  · go_wp2
    go_ret
    exact ⟨rfl, H1.out.2⟩
  · have HBG := hide (HL.out.resolve_left (by omega)).2.2
    have n1 : decide (left < 0) = false := by simp; omega
    clear HL hneg
    have HBR : Hid (Big 1048576 (mendD xs ys is bs).1 (mendD xs ys is bs).2.1 (mendD xs ys is bs).2.2.1 (mendD xs ys is bs).2.2.2) := big_D HBG.out
    have CS : Hid (∀ W u v iv bv, DR W u v iv bv xs ys is bs → Calls Tryz.prog 5 #[.agg #[u, v, iv, bv]] W fun e w' => ∃ u' v' i' b', e = .returned (.agg #[u', v', i', b']) ∧ DO w' (fun k => W.heap.size ≤ k) u' v' i' b' (mendD xs ys is bs).1 (mendD xs ys is bs).2.1 (mendD xs ys is bs).2.2.1 (mendD xs ys is bs).2.2.2 ∧ Below W.heap.size W w') := fun W u v iv bv h => specMend_any u v iv bv xs ys is bs W h HBG.out
    have CI : Hid (∀ W u v iv bv, DR W u v iv bv xs ys is bs → Calls Tryz.prog 7 #[.agg #[u, v, iv, bv]] W fun e w' => ∃ u' v' i' b', e = .returned (.agg #[u', v', i', b']) ∧ DO w' (fun k => W.heap.size ≤ k) u' v' i' b' (mendD xs ys is bs).1 (mendD xs ys is bs).2.1 (mendD xs ys is bs).2.2.1 (mendD xs ys is bs).2.2.2 ∧ Below W.heap.size W w') := fun W u v iv bv h => implMend_any u v iv bv xs ys is bs W h HBG.out
    obtain ⟨Q1, hR1⟩ : ∃ R, (mendD xs ys is bs).1 = R := ⟨_, rfl⟩
    obtain ⟨Q2, hR2⟩ : ∃ R, (mendD xs ys is bs).2.1 = R := ⟨_, rfl⟩
    obtain ⟨Q3, hR3⟩ : ∃ R, (mendD xs ys is bs).2.2.1 = R := ⟨_, rfl⟩
    obtain ⟨Q4, hR4⟩ : ∃ R, (mendD xs ys is bs).2.2.2 = R := ⟨_, rfl⟩
    rw [hR1, hR2, hR3, hR4] at CS CI HBR
    have CM0 : Hid (∀ u v iv bv S W, DO W S u v iv bv Q1 Q2 Q3 Q4 → Calls Tryz.prog 9 #[.agg #[u, v, iv, bv], .int .i64 1] W fun e w' => e = .returned (.int .i64 (cntD 1 Q1 Q2 Q3 Q4 : Nat)) ∧ DM w' S u v iv bv 1 Q1 Q2 Q3 Q4 ∧ Chg S W w') := fun u v iv bv S W h => markDisk_any u v iv bv Q1 Q2 Q3 Q4 S 1 W h (by decide) (Nat.le_trans (cntD_big HBR.out) (by decide))
    have CH0 : Hid (∀ u v iv bv S W, DM W S u v iv bv 1 Q1 Q2 Q3 Q4 → Calls Tryz.prog 10 #[.agg #[u, v, iv, bv], .int .i64 1] W fun e w' => e = .returned (.int .i64 (cntD 1 Q1 Q2 Q3 Q4 : Nat)) ∧ Below W.heap.size W w') := fun u v iv bv S W h => heldDisk_any u v iv bv Q1 Q2 Q3 Q4 S 1 W h (by decide) (Nat.le_trans (cntD_big HBR.out) (by decide))
    obtain ⟨NM, hNM⟩ : ∃ n, cntD 1 Q1 Q2 Q3 Q4 = n := ⟨_, rfl⟩
    have CM := CM0
    have CH := CH0
    rw [hNM] at CM CH
    have nNM : ¬ ((NM : Int) < 0) := by omega
    obtain ⟨ND, hND⟩ : ∃ n, cntD 1 xs ys is bs = n := ⟨_, rfl⟩
    have CX : Hid (∀ S W u v iv bv, DO W S u v iv bv xs ys is bs → Calls Tryz.prog 9 #[.agg #[u, v, iv, bv], .int .i64 1] W fun e w' => e = .returned (.int .i64 (ND : Nat)) ∧ DM w' S u v iv bv 1 xs ys is bs ∧ Chg S W w') := fun S W u v iv bv h => by
      have := markDisk_any u v iv bv xs ys is bs S 1 W h (by decide) (Nat.le_trans (cntD_big HBG.out) (by decide))
      rw [hND] at this
      exact this
    have nND : ¬ ((ND : Int) < 0) := by omega
    clear hR1 hR2 hR3 hR4 hNM hND CM0 CH0
    go_wp2_with fail
    refine (toDisk_any _ _ _ _ xs ys is bs w1 (HV.out.below H1.out.2 (Nat.le_refl _)) HBG.out).mono ?_
    rintro e w2 ⟨u1, u2, u3, u4, rfl, O2, B2⟩
    obtain ⟨s1, t1, s2, t2, s3, t3, s4, t4, rfl, rfl, rfl, rfl⟩ := O2.dr.form
    have H2 := hide (And.intro (H1.out.1.over B2) (H1.out.2.trans (B2.mono H1.out.2.size)))
    have R2 := hide O2.dr
    clear B2 O2 x0 x1 x2 x3 n1 H1
    go_wp2_with fail
    refine (CS.out w2 _ _ _ _ R2.out).mono ?_
    rintro e w3 ⟨v1, v2, v3, v4, rfl, O3, B3⟩
    obtain ⟨p1, q1, p2, q2, p3, q3, p4, q4, rfl, rfl, rfl, rfl⟩ := O3.dr.form
    have X3 := (H2.out.1.over B3).alloc (.cells #[.slice p1 Q1.length q1, .slice p2 Q2.length q2, .slice p3 Q3.length q3, .slice p4 Q4.length q4] 34)
    have b3 := (H2.out.2.trans (B3.mono H2.out.2.size)).alloc (Nat.le_trans H2.out.2.size B3.size) (.cells #[.slice p1 Q1.length q1, .slice p2 Q2.length q2, .slice p3 Q3.length q3, .slice p4 Q4.length q4] 34)
    have H3 := hide (And.intro X3 (And.intro b3 (And.intro (AtC.new w3 34 #[.slice p1 Q1.length q1, .slice p2 Q2.length q2, .slice p3 Q3.length q3, .slice p4 Q4.length q4]) (O3.dr.alloc (.cells #[.slice p1 Q1.length q1, .slice p2 Q2.length q2, .slice p3 Q3.length q3, .slice p4 Q4.length q4] 34)))))
    have x0 : (w3.alloc (.cells #[.slice p1 Q1.length q1, .slice p2 Q2.length q2, .slice p3 Q3.length q3, .slice p4 Q4.length q4] 34)).cell? ⟨w.heap.size, 0, none⟩ = some (.slice a1 xs.length c1) := X3.cell 0
    have x1 : (w3.alloc (.cells #[.slice p1 Q1.length q1, .slice p2 Q2.length q2, .slice p3 Q3.length q3, .slice p4 Q4.length q4] 34)).cell? ⟨w.heap.size, 1, none⟩ = some (.slice a2 ys.length c2) := X3.cell 1
    have x2 : (w3.alloc (.cells #[.slice p1 Q1.length q1, .slice p2 Q2.length q2, .slice p3 Q3.length q3, .slice p4 Q4.length q4] 34)).cell? ⟨w.heap.size, 2, none⟩ = some (.slice a3 is.length c3) := X3.cell 2
    have x3 : (w3.alloc (.cells #[.slice p1 Q1.length q1, .slice p2 Q2.length q2, .slice p3 Q3.length q3, .slice p4 Q4.length q4] 34)).cell? ⟨w.heap.size, 3, none⟩ = some (.slice a4 bs.length c4) := X3.cell 3
    clear B3 O3 X3 b3 H2 R2
    go_wp2_with fail
    generalize w3.heap.size = bw at *
    generalize w3.alloc (.cells #[.slice p1 Q1.length q1, .slice p2 Q2.length q2, .slice p3 Q3.length q3, .slice p4 Q4.length q4] 34) = W3 at *
    refine (toDisk_any _ _ _ _ xs ys is bs W3 (HV.out.below H3.out.2.1 (Nat.le_refl _)) HBG.out).mono ?_
    rintro e w4 ⟨u1, u2, u3, u4, rfl, O4, B4⟩
    obtain ⟨d1, f1, d2, f2, d3, f3, d4, f4, rfl, rfl, rfl, rfl⟩ := O4.dr.form
    have O4b := O4.bound
    have H4 := hide (And.intro (B4.alloc B4.size (.cells #[.slice d1 xs.length f1, .slice d2 ys.length f2, .slice d3 is.length f3, .slice d4 bs.length f4] 34)) (And.intro (AtC.new w4 34 #[.slice d1 xs.length f1, .slice d2 ys.length f2, .slice d3 is.length f3, .slice d4 bs.length f4]) (O4b.alloc (.cells #[.slice d1 xs.length f1, .slice d2 ys.length f2, .slice d3 is.length f3, .slice d4 bs.length f4] 34))))
    have y0 : (w4.alloc (.cells #[.slice d1 xs.length f1, .slice d2 ys.length f2, .slice d3 is.length f3, .slice d4 bs.length f4] 34)).cell? ⟨w4.heap.size, 0, none⟩ = some (.slice d1 xs.length f1) := (AtC.new w4 34 #[.slice d1 xs.length f1, .slice d2 ys.length f2, .slice d3 is.length f3, .slice d4 bs.length f4]).cell 0
    have y1 : (w4.alloc (.cells #[.slice d1 xs.length f1, .slice d2 ys.length f2, .slice d3 is.length f3, .slice d4 bs.length f4] 34)).cell? ⟨w4.heap.size, 1, none⟩ = some (.slice d2 ys.length f2) := (AtC.new w4 34 #[.slice d1 xs.length f1, .slice d2 ys.length f2, .slice d3 is.length f3, .slice d4 bs.length f4]).cell 1
    have y2 : (w4.alloc (.cells #[.slice d1 xs.length f1, .slice d2 ys.length f2, .slice d3 is.length f3, .slice d4 bs.length f4] 34)).cell? ⟨w4.heap.size, 2, none⟩ = some (.slice d3 is.length f3) := (AtC.new w4 34 #[.slice d1 xs.length f1, .slice d2 ys.length f2, .slice d3 is.length f3, .slice d4 bs.length f4]).cell 2
    have y3 : (w4.alloc (.cells #[.slice d1 xs.length f1, .slice d2 ys.length f2, .slice d3 is.length f3, .slice d4 bs.length f4] 34)).cell? ⟨w4.heap.size, 3, none⟩ = some (.slice d4 bs.length f4) := (AtC.new w4 34 #[.slice d1 xs.length f1, .slice d2 ys.length f2, .slice d3 is.length f3, .slice d4 bs.length f4]).cell 3
    have z4 : (w4.alloc (.cells #[.slice d1 xs.length f1, .slice d2 ys.length f2, .slice d3 is.length f3, .slice d4 bs.length f4] 34)).heap.size = w4.heap.size + 1 := by simp
    have z3 : W3.heap.size ≤ w4.heap.size := B4.size
    clear B4 O4 O4b x0 x1 x2 x3
    go_wp2_with fail
    generalize hhx : w4.heap.size = hx at *
    generalize w4.alloc (.cells #[.slice d1 xs.length f1, .slice d2 ys.length f2, .slice d3 is.length f3, .slice d4 bs.length f4] 34) = W4 at *
    refine (CI.out W4 _ _ _ _ H4.out.2.2.dr).mono ?_
    rintro e w5 ⟨v1, v2, v3, v4, rfl, O5, B5⟩
    obtain ⟨g1, k1, g2, k2, g3, k3, g4, k4, rfl, rfl, rfl, rfl⟩ := O5.dr.form
    have O5b := O5.bound
    have b5 : Below W4.heap.size W4 (w5.alloc (.cells #[.slice g1 Q1.length k1, .slice g2 Q2.length k2, .slice g3 Q3.length k3, .slice g4 Q4.length k4] 34)) := B5.alloc B5.size (.cells #[.slice g1 Q1.length k1, .slice g2 Q2.length k2, .slice g3 Q3.length k3, .slice g4 Q4.length k4] 34)
    have HS5 : Hid (∀ W, Below (w5.alloc (.cells #[.slice g1 Q1.length k1, .slice g2 Q2.length k2, .slice g3 Q3.length k3, .slice g4 Q4.length k4] 34)).heap.size (w5.alloc (.cells #[.slice g1 Q1.length k1, .slice g2 Q2.length k2, .slice g3 Q3.length k3, .slice g4 Q4.length k4] 34)) W → Below W3.heap.size W3 W ∧ AtC W hx 34 #[.slice d1 xs.length f1, .slice d2 ys.length f2, .slice d3 is.length f3, .slice d4 bs.length f4] ∧ DO W (fun q => W3.heap.size ≤ q ∧ q < hx) (.slice d1 xs.length f1) (.slice d2 ys.length f2) (.slice d3 is.length f3) (.slice d4 bs.length f4) xs ys is bs ∧ AtC W w5.heap.size 34 #[.slice g1 Q1.length k1, .slice g2 Q2.length k2, .slice g3 Q3.length k3, .slice g4 Q4.length k4] ∧ DO W (fun q => W4.heap.size ≤ q ∧ q < w5.heap.size) (.slice g1 Q1.length k1) (.slice g2 Q2.length k2) (.slice g3 Q3.length k3) (.slice g4 Q4.length k4) Q1 Q2 Q3 Q4) := fun W b => by
      have bb := b5.trans (b.mono b5.size)
      exact ⟨H4.out.1.trans (bb.mono H4.out.1.size), H4.out.2.1.over bb, H4.out.2.2.below bb (Nat.le_refl _), (AtC.new w5 34 _).over b, (O5b.alloc _).below b (Nat.le_refl _)⟩
    have z5 : (w5.alloc (.cells #[.slice g1 Q1.length k1, .slice g2 Q2.length k2, .slice g3 Q3.length k3, .slice g4 Q4.length k4] 34)).heap.size = w5.heap.size + 1 := by simp
    have z6 : W4.heap.size ≤ w5.heap.size := B5.size
    have A5 := HS5.out _ (Below.refl _ _)
    have W5b := H3.out.2.2.1.over A5.1
    have r0 : (w5.alloc (.cells #[.slice g1 Q1.length k1, .slice g2 Q2.length k2, .slice g3 Q3.length k3, .slice g4 Q4.length k4] 34)).cell? ⟨bw, 0, none⟩ = some (.slice p1 Q1.length q1) := W5b.cell 0
    have r1 : (w5.alloc (.cells #[.slice g1 Q1.length k1, .slice g2 Q2.length k2, .slice g3 Q3.length k3, .slice g4 Q4.length k4] 34)).cell? ⟨bw, 1, none⟩ = some (.slice p2 Q2.length q2) := W5b.cell 1
    have r2 : (w5.alloc (.cells #[.slice g1 Q1.length k1, .slice g2 Q2.length k2, .slice g3 Q3.length k3, .slice g4 Q4.length k4] 34)).cell? ⟨bw, 2, none⟩ = some (.slice p3 Q3.length q3) := W5b.cell 2
    have r3 : (w5.alloc (.cells #[.slice g1 Q1.length k1, .slice g2 Q2.length k2, .slice g3 Q3.length k3, .slice g4 Q4.length k4] 34)).cell? ⟨bw, 3, none⟩ = some (.slice p4 Q4.length q4) := W5b.cell 3
    have m0 : (w5.alloc (.cells #[.slice g1 Q1.length k1, .slice g2 Q2.length k2, .slice g3 Q3.length k3, .slice g4 Q4.length k4] 34)).cell? ⟨w5.heap.size, 0, none⟩ = some (.slice g1 Q1.length k1) := A5.2.2.2.1.cell 0
    have m1 : (w5.alloc (.cells #[.slice g1 Q1.length k1, .slice g2 Q2.length k2, .slice g3 Q3.length k3, .slice g4 Q4.length k4] 34)).cell? ⟨w5.heap.size, 1, none⟩ = some (.slice g2 Q2.length k2) := A5.2.2.2.1.cell 1
    have m2 : (w5.alloc (.cells #[.slice g1 Q1.length k1, .slice g2 Q2.length k2, .slice g3 Q3.length k3, .slice g4 Q4.length k4] 34)).cell? ⟨w5.heap.size, 2, none⟩ = some (.slice g3 Q3.length k3) := A5.2.2.2.1.cell 2
    have m3 : (w5.alloc (.cells #[.slice g1 Q1.length k1, .slice g2 Q2.length k2, .slice g3 Q3.length k3, .slice g4 Q4.length k4] 34)).cell? ⟨w5.heap.size, 3, none⟩ = some (.slice g4 Q4.length k4) := A5.2.2.2.1.cell 3
    clear B5 O5 O5b b5 A5 W5b y0 y1 y2 y3
    go_wp2_with fail
    generalize hhg : w5.heap.size = hg at *
    generalize w5.alloc (.cells #[.slice g1 Q1.length k1, .slice g2 Q2.length k2, .slice g3 Q3.length k3, .slice g4 Q4.length k4] 34) = W5 at *
    refine (eqDisk_same _ _ _ _ _ _ _ _ Q1 Q2 Q3 Q4 W5 (HS5.out _ (Below.refl _ _)).2.2.2.2.dr (H3.out.2.2.2.below (HS5.out _ (Below.refl _ _)).1 (Nat.le_refl _)) HBR.out).mono ?_
    rintro e w6 ⟨rfl, B6⟩
    have HS6 : Hid (∀ W, Below w6.heap.size w6 W → Below W3.heap.size W3 W ∧ AtC W hx 34 #[.slice d1 xs.length f1, .slice d2 ys.length f2, .slice d3 is.length f3, .slice d4 bs.length f4] ∧ DO W (fun q => W3.heap.size ≤ q ∧ q < hx) (.slice d1 xs.length f1) (.slice d2 ys.length f2) (.slice d3 is.length f3) (.slice d4 bs.length f4) xs ys is bs ∧ AtC W hg 34 #[.slice g1 Q1.length k1, .slice g2 Q2.length k2, .slice g3 Q3.length k3, .slice g4 Q4.length k4] ∧ DO W (fun q => W4.heap.size ≤ q ∧ q < hg) (.slice g1 Q1.length k1) (.slice g2 Q2.length k2) (.slice g3 Q3.length k3) (.slice g4 Q4.length k4) Q1 Q2 Q3 Q4) := fun W b => HS5.out W (B6.trans (b.mono B6.size))
    have HCL : Hid (∀ w', Below w6.heap.size w6 w' → w'.cell? ⟨w.heap.size, 0, none⟩ = some (.slice a1 xs.length c1) ∧ w'.cell? ⟨w.heap.size, 1, none⟩ = some (.slice a2 ys.length c2) ∧ w'.cell? ⟨w.heap.size, 2, none⟩ = some (.slice a3 is.length c3) ∧ w'.cell? ⟨w.heap.size, 3, none⟩ = some (.slice a4 bs.length c4) ∧ w'.cell? ⟨hx, 0, none⟩ = some (.slice d1 xs.length f1) ∧ w'.cell? ⟨hx, 1, none⟩ = some (.slice d2 ys.length f2) ∧ w'.cell? ⟨hx, 2, none⟩ = some (.slice d3 is.length f3) ∧ w'.cell? ⟨hx, 3, none⟩ = some (.slice d4 bs.length f4)) := fun w' b => by
      have q := HS6.out w' b
      have qa := H3.out.1.over q.1
      exact ⟨qa.cell 0, qa.cell 1, qa.cell 2, qa.cell 3, q.2.1.cell 0, q.2.1.cell 1, q.2.1.cell 2, q.2.1.cell 3⟩
    obtain ⟨x0, x1, x2, x3, y0, y1, y2, y3⟩ := HCL.out _ (Below.refl _ _)
    clear B6 HS5 r0 r1 r2 r3 m0 m1 m2 m3
    go_wp2_with fail
    go_region_held3 (fun w' => w'.cell? ⟨w.heap.size, 0, none⟩ = some (.slice a1 xs.length c1) ∧ w'.cell? ⟨w.heap.size, 1, none⟩ = some (.slice a2 ys.length c2) ∧ w'.cell? ⟨w.heap.size, 2, none⟩ = some (.slice a3 is.length c3) ∧ w'.cell? ⟨w.heap.size, 3, none⟩ = some (.slice a4 bs.length c4) ∧ w'.cell? ⟨hx, 0, none⟩ = some (.slice d1 xs.length f1) ∧ w'.cell? ⟨hx, 1, none⟩ = some (.slice d2 ys.length f2) ∧ w'.cell? ⟨hx, 2, none⟩ = some (.slice d3 is.length f3) ∧ w'.cell? ⟨hx, 3, none⟩ = some (.slice d4 bs.length f4)) (first | exact HCL.out _ (Below.refl _ _).drew | exact HCL.out _ (of_drew B7) | exact HCL.out _ ((of_drew B7).trans (B8.mono (of_drew B7).size))) (first | (go_at_call 6; refine (toDisk_any _ _ _ _ xs ys is bs _ (HV.out.below (H3.out.2.1.trans ((HS6.out _ (Below.refl _ _).drew).1.mono H3.out.2.1.size)) (Nat.le_refl _)) HBG.out).mono ?_; rintro e w7 ⟨u1, u2, u3, u4, rfl, O7, B7⟩; obtain ⟨h1, j1, h2, j2, h3, j3, h4, j4, rfl, rfl, rfl, rfl⟩ := O7.dr.form) | (go_at_call 8; refine (eqDisk_same _ _ _ _ _ _ _ _ xs ys is bs _ (HS6.out _ (of_drew B7)).2.2.1.dr O7.dr HBG.out).mono ?_; rintro e w8 ⟨rfl, B8⟩))
    have HB8 := hide ((of_drew B7).trans (B8.mono (of_drew B7).size))
    have HS8 : Hid (∀ W, Below w8.heap.size w8 W → Below W3.heap.size W3 W ∧ AtC W hx 34 #[.slice d1 xs.length f1, .slice d2 ys.length f2, .slice d3 is.length f3, .slice d4 bs.length f4] ∧ DO W (fun q => W3.heap.size ≤ q ∧ q < hx) (.slice d1 xs.length f1) (.slice d2 ys.length f2) (.slice d3 is.length f3) (.slice d4 bs.length f4) xs ys is bs ∧ AtC W hg 34 #[.slice g1 Q1.length k1, .slice g2 Q2.length k2, .slice g3 Q3.length k3, .slice g4 Q4.length k4] ∧ DO W (fun q => W4.heap.size ≤ q ∧ q < hg) (.slice g1 Q1.length k1) (.slice g2 Q2.length k2) (.slice g3 Q3.length k3) (.slice g4 Q4.length k4) Q1 Q2 Q3 Q4) := fun W b => HS6.out W (HB8.out.trans (b.mono HB8.out.size))
    have X8 := (HS8.out _ (Below.refl _ _)).2.1
    clear x0 x1 x2 x3 y0 y1 y2 y3
    have y0 : w8.cell? ⟨hx, 0, none⟩ = some (.slice d1 xs.length f1) := X8.cell 0
    have y1 : w8.cell? ⟨hx, 1, none⟩ = some (.slice d2 ys.length f2) := X8.cell 1
    have y2 : w8.cell? ⟨hx, 2, none⟩ = some (.slice d3 is.length f3) := X8.cell 2
    have y3 : w8.cell? ⟨hx, 3, none⟩ = some (.slice d4 bs.length f4) := X8.cell 3
    clear B7 B8 O7 HB8 HCL HS6 X8
    go_wp2_with fail
    refine (CX.out _ w8 _ _ _ _ (HS8.out _ (Below.refl _ _)).2.2.1).mono ?_
    rintro e w9 ⟨rfl, -, C9⟩
    have HS9 : Hid (∀ W, Below w9.heap.size w9 W → Below W3.heap.size W3 W ∧ AtC W hg 34 #[.slice g1 Q1.length k1, .slice g2 Q2.length k2, .slice g3 Q3.length k3, .slice g4 Q4.length k4] ∧ DO W (fun q => W4.heap.size ≤ q ∧ q < hg) (.slice g1 Q1.length k1) (.slice g2 Q2.length k2) (.slice g3 Q3.length k3) (.slice g4 Q4.length k4) Q1 Q2 Q3 Q4) := fun W b => by
      obtain ⟨q1, -, -, q4, q5⟩ := HS8.out _ (Below.refl _ _)
      have kk : Below W3.heap.size W3 w9 := q1.trans (C9.below q1.size (fun k hk => hk.1))
      exact ⟨kk.trans (b.mono kk.size), AtC.over (w := w9) (b := hg) (T := 34) (cs := #[.slice g1 Q1.length k1, .slice g2 Q2.length k2, .slice g3 Q3.length k3, .slice g4 Q4.length k4]) ((C9.block hg q4.lt (fun e => by omega)).trans q4) b, (q5.chg C9 (fun k hk e => by omega)).below b (Nat.le_refl _)⟩
    clear y0 y1 y2 y3
    have Q := HS9.out _ (Below.refl _ _)
    have Qw := H3.out.2.2.1.over Q.1
    have r0 : w9.cell? ⟨bw, 0, none⟩ = some (.slice p1 Q1.length q1) := Qw.cell 0
    have r1 : w9.cell? ⟨bw, 1, none⟩ = some (.slice p2 Q2.length q2) := Qw.cell 1
    have r2 : w9.cell? ⟨bw, 2, none⟩ = some (.slice p3 Q3.length q3) := Qw.cell 2
    have r3 : w9.cell? ⟨bw, 3, none⟩ = some (.slice p4 Q4.length q4) := Qw.cell 3
    have m0 : w9.cell? ⟨hg, 0, none⟩ = some (.slice g1 Q1.length k1) := Q.2.1.cell 0
    have m1 : w9.cell? ⟨hg, 1, none⟩ = some (.slice g2 Q2.length k2) := Q.2.1.cell 1
    have m2 : w9.cell? ⟨hg, 2, none⟩ = some (.slice g3 Q3.length k3) := Q.2.1.cell 2
    have m3 : w9.cell? ⟨hg, 3, none⟩ = some (.slice g4 Q4.length k4) := Q.2.1.cell 3
    clear Q Qw
    clear C9 HS8
    go_wp2_with fail
    refine (eqDisk_same _ _ _ _ _ _ _ _ Q1 Q2 Q3 Q4 w9 (HS9.out _ (Below.refl _ _)).2.2.dr (H3.out.2.2.2.below (HS9.out _ (Below.refl _ _)).1 (Nat.le_refl _)) HBR.out).mono ?_
    rintro e w10 ⟨rfl, B10⟩
    have HS10 : Hid (∀ W, Below w10.heap.size w10 W → Below W3.heap.size W3 W ∧ AtC W hg 34 #[.slice g1 Q1.length k1, .slice g2 Q2.length k2, .slice g3 Q3.length k3, .slice g4 Q4.length k4] ∧ DO W (fun q => W4.heap.size ≤ q ∧ q < hg) (.slice g1 Q1.length k1) (.slice g2 Q2.length k2) (.slice g3 Q3.length k3) (.slice g4 Q4.length k4) Q1 Q2 Q3 Q4) := fun W b => HS9.out W (B10.trans (b.mono B10.size))
    clear B10 HS9 r0 r1 r2 r3 m0 m1 m2 m3
    have Q := HS10.out _ (Below.refl _ _)
    have m0 : w10.cell? ⟨hg, 0, none⟩ = some (.slice g1 Q1.length k1) := Q.2.1.cell 0
    have m1 : w10.cell? ⟨hg, 1, none⟩ = some (.slice g2 Q2.length k2) := Q.2.1.cell 1
    have m2 : w10.cell? ⟨hg, 2, none⟩ = some (.slice g3 Q3.length k3) := Q.2.1.cell 2
    have m3 : w10.cell? ⟨hg, 3, none⟩ = some (.slice g4 Q4.length k4) := Q.2.1.cell 3
    clear Q
    go_wp2_with fail
    refine (CM.out _ _ _ _ _ w10 (HS10.out _ (Below.refl _ _)).2.2).mono ?_
    rintro e w11 ⟨rfl, M11, C11⟩
    have HS11 : Hid (∀ W, Below w11.heap.size w11 W → Below W3.heap.size W3 W ∧ AtC W hg 34 #[.slice g1 Q1.length k1, .slice g2 Q2.length k2, .slice g3 Q3.length k3, .slice g4 Q4.length k4] ∧ DM W (fun q => W4.heap.size ≤ q ∧ q < hg) (.slice g1 Q1.length k1) (.slice g2 Q2.length k2) (.slice g3 Q3.length k3) (.slice g4 Q4.length k4) 1 Q1 Q2 Q3 Q4) := fun W b => by
      obtain ⟨q1, q4, -⟩ := HS10.out _ (Below.refl _ _)
      have kk : Below W3.heap.size W3 w11 := q1.trans (C11.below q1.size (fun k hk => by omega))
      exact ⟨kk.trans (b.mono kk.size), AtC.over (w := w11) (b := hg) (T := 34) (cs := #[.slice g1 Q1.length k1, .slice g2 Q2.length k2, .slice g3 Q3.length k3, .slice g4 Q4.length k4]) ((C11.block hg q4.lt (fun e => by omega)).trans q4) b, M11.below b (Nat.le_refl _)⟩
    clear M11 C11 HS10 m0 m1 m2 m3
    have Q := HS11.out _ (Below.refl _ _)
    have m0 : w11.cell? ⟨hg, 0, none⟩ = some (.slice g1 Q1.length k1) := Q.2.1.cell 0
    have m1 : w11.cell? ⟨hg, 1, none⟩ = some (.slice g2 Q2.length k2) := Q.2.1.cell 1
    have m2 : w11.cell? ⟨hg, 2, none⟩ = some (.slice g3 Q3.length k3) := Q.2.1.cell 2
    have m3 : w11.cell? ⟨hg, 3, none⟩ = some (.slice g4 Q4.length k4) := Q.2.1.cell 3
    clear Q
    go_wp2_with fail
    refine (CH.out _ _ _ _ _ w11 (HS11.out _ (Below.refl _ _)).2.2).mono ?_
    rintro e w12 ⟨rfl, B12⟩
    have HS12 : Hid (∀ W, Below w12.heap.size w12 W → Below W3.heap.size W3 W ∧ AtC W hg 34 #[.slice g1 Q1.length k1, .slice g2 Q2.length k2, .slice g3 Q3.length k3, .slice g4 Q4.length k4] ∧ DM W (fun q => W4.heap.size ≤ q ∧ q < hg) (.slice g1 Q1.length k1) (.slice g2 Q2.length k2) (.slice g3 Q3.length k3) (.slice g4 Q4.length k4) 1 Q1 Q2 Q3 Q4) := fun W b => HS11.out W (B12.trans (b.mono B12.size))
    clear B12 HS11 m0 m1 m2 m3
    have Q := H3.out.1.over (HS12.out _ (Below.refl _ _)).1
    have x0 : w12.cell? ⟨w.heap.size, 0, none⟩ = some (.slice a1 xs.length c1) := Q.cell 0
    have x1 : w12.cell? ⟨w.heap.size, 1, none⟩ = some (.slice a2 ys.length c2) := Q.cell 1
    have x2 : w12.cell? ⟨w.heap.size, 2, none⟩ = some (.slice a3 is.length c3) := Q.cell 2
    have x3 : w12.cell? ⟨w.heap.size, 3, none⟩ = some (.slice a4 bs.length c4) := Q.cell 3
    clear Q
    go_wp2_with fail
    refine (toDisk_any _ _ _ _ xs ys is bs w12 (HV.out.below (H3.out.2.1.trans ((HS12.out _ (Below.refl _ _)).1.mono H3.out.2.1.size)) (Nat.le_refl _)) HBG.out).mono ?_
    rintro e w13 ⟨u1, u2, u3, u4, rfl, O13, B13⟩
    obtain ⟨h1, j1, h2, j2, h3, j3, h4, j4, rfl, rfl, rfl, rfl⟩ := O13.dr.form
    have R13 := hide O13.dr
    have H13 := hide B13
    clear B13 O13 x0 x1 x2 x3
    go_wp2_with fail
    refine (CI.out w13 _ _ _ _ R13.out).mono ?_
    rintro e w14 ⟨v1, v2, v3, v4, rfl, O14, B14⟩
    obtain ⟨i1, l1, i2, l2, i3, l3, i4, l4, rfl, rfl, rfl, rfl⟩ := O14.dr.form
    have b14 : Below w12.heap.size w12 (w14.alloc (.cells #[.slice i1 Q1.length l1, .slice i2 Q2.length l2, .slice i3 Q3.length l3, .slice i4 Q4.length l4] 34)) := (H13.out.trans (B14.mono H13.out.size)).alloc (Nat.le_trans H13.out.size B14.size) (.cells #[.slice i1 Q1.length l1, .slice i2 Q2.length l2, .slice i3 Q3.length l3, .slice i4 Q4.length l4] 34)
    have HS14 : Hid (∀ W, Below (w14.alloc (.cells #[.slice i1 Q1.length l1, .slice i2 Q2.length l2, .slice i3 Q3.length l3, .slice i4 Q4.length l4] 34)).heap.size (w14.alloc (.cells #[.slice i1 Q1.length l1, .slice i2 Q2.length l2, .slice i3 Q3.length l3, .slice i4 Q4.length l4] 34)) W → (Below W3.heap.size W3 W ∧ AtC W hg 34 #[.slice g1 Q1.length k1, .slice g2 Q2.length k2, .slice g3 Q3.length k3, .slice g4 Q4.length k4] ∧ DM W (fun q => W4.heap.size ≤ q ∧ q < hg) (.slice g1 Q1.length k1) (.slice g2 Q2.length k2) (.slice g3 Q3.length k3) (.slice g4 Q4.length k4) 1 Q1 Q2 Q3 Q4) ∧ DR W (.slice i1 Q1.length l1) (.slice i2 Q2.length l2) (.slice i3 Q3.length l3) (.slice i4 Q4.length l4) Q1 Q2 Q3 Q4) := fun W b => ⟨HS12.out W (b14.trans (b.mono b14.size)), (O14.dr.alloc _).below b (Nat.le_refl _)⟩
    have Q := H3.out.2.2.1.over (HS14.out _ (Below.refl _ _)).1.1
    have r0 : (w14.alloc (.cells #[.slice i1 Q1.length l1, .slice i2 Q2.length l2, .slice i3 Q3.length l3, .slice i4 Q4.length l4] 34)).cell? ⟨bw, 0, none⟩ = some (.slice p1 Q1.length q1) := Q.cell 0
    have r1 : (w14.alloc (.cells #[.slice i1 Q1.length l1, .slice i2 Q2.length l2, .slice i3 Q3.length l3, .slice i4 Q4.length l4] 34)).cell? ⟨bw, 1, none⟩ = some (.slice p2 Q2.length q2) := Q.cell 1
    have r2 : (w14.alloc (.cells #[.slice i1 Q1.length l1, .slice i2 Q2.length l2, .slice i3 Q3.length l3, .slice i4 Q4.length l4] 34)).cell? ⟨bw, 2, none⟩ = some (.slice p3 Q3.length q3) := Q.cell 2
    have r3 : (w14.alloc (.cells #[.slice i1 Q1.length l1, .slice i2 Q2.length l2, .slice i3 Q3.length l3, .slice i4 Q4.length l4] 34)).cell? ⟨bw, 3, none⟩ = some (.slice p4 Q4.length q4) := Q.cell 3
    clear Q B14 O14 b14 R13 H13 HS12
    go_wp2_with fail
    generalize w14.heap.size = bh at *
    generalize w14.alloc (.cells #[.slice i1 Q1.length l1, .slice i2 Q2.length l2, .slice i3 Q3.length l3, .slice i4 Q4.length l4] 34) = W14 at *
    refine (eqDisk_same _ _ _ _ _ _ _ _ Q1 Q2 Q3 Q4 W14 (HS14.out _ (Below.refl _ _)).2 (H3.out.2.2.2.below (HS14.out _ (Below.refl _ _)).1.1 (Nat.le_refl _)) HBR.out).mono ?_
    rintro e w15 ⟨rfl, B15⟩
    have HS15 : Hid (∀ W, Below w15.heap.size w15 W → Below W3.heap.size W3 W ∧ AtC W hg 34 #[.slice g1 Q1.length k1, .slice g2 Q2.length k2, .slice g3 Q3.length k3, .slice g4 Q4.length k4] ∧ DM W (fun q => W4.heap.size ≤ q ∧ q < hg) (.slice g1 Q1.length k1) (.slice g2 Q2.length k2) (.slice g3 Q3.length k3) (.slice g4 Q4.length k4) 1 Q1 Q2 Q3 Q4) := fun W b => (HS14.out W (B15.trans (b.mono B15.size))).1
    clear B15 HS14 r0 r1 r2 r3
    have Q := HS15.out _ (Below.refl _ _)
    have m0 : w15.cell? ⟨hg, 0, none⟩ = some (.slice g1 Q1.length k1) := Q.2.1.cell 0
    have m1 : w15.cell? ⟨hg, 1, none⟩ = some (.slice g2 Q2.length k2) := Q.2.1.cell 1
    have m2 : w15.cell? ⟨hg, 2, none⟩ = some (.slice g3 Q3.length k3) := Q.2.1.cell 2
    have m3 : w15.cell? ⟨hg, 3, none⟩ = some (.slice g4 Q4.length k4) := Q.2.1.cell 3
    clear Q
    go_wp2_with fail
    refine (CH.out _ _ _ _ _ w15 (HS15.out _ (Below.refl _ _)).2.2).mono ?_
    rintro e w16 ⟨rfl, B16⟩
    have HF := hide (H3.out.2.1.trans ((HS15.out _ B16).1.mono H3.out.2.1.size))
    clear B16 HS15 m0 m1 m2 m3
    go_wp2
    go_ret
    exact ⟨rfl, HF.out⟩
end Go.Proofs.YtbebgnknjoclkaaGreat.fnExactMendAll
