/- Texts of the proof, bundled: Cq, Cr, Mz, Dp, Ap. -/
import Derived.Deep.AppendLies
import Derived.Test.YtggjillpfclajaaGreatU06
import Derived.Test.YtggjillpfclajaaGreatU05
import Derived.Test.YtggjillpfclajaaGreatU04
import Derived.Test.YtggjillpfclajaaGreatU01
/- Copies of an inode, of a block: spec.l03Copy, spec.l04Copy, impl.newBlock by their contracts. -/
namespace Go.Proofs.YtggjillpfclajaaGreat.Kit
open Go.RowKit
theorem lit0_at (w : World) (A B : Obj) (e : TypeId) (m : Nat) : (((w.alloc A).alloc B).alloc (.cells #[] e)).ownsRow (w.heap.size + 1 + 1) e m (.slice (some ⟨w.heap.size + 1 + 1, 0, none⟩) 0 0) 0 [] := by
  have := World.ownsRow_lit (base := w.heap.size + 1 + 1) (e := e) (size := m) ((w.alloc A).alloc B) #[] 0 (by simp) (Nat.zero_le _) (by simp)
  simpa using this
theorem alloc3_below (w : World) (A B C : Obj) : Below w.heap.size w (((w.alloc A).alloc B).alloc C) := (((Below.refl _ w).alloc (Nat.le_refl _) _).alloc (by simp) _).alloc (by simp; omega) _
theorem AtC.two3 (w : World) (T1 T2 : TypeId) (cs ds : Array Value) (C : Obj) : AtC (((w.alloc (.cells cs T1)).alloc (.cells ds T2)).alloc C) w.heap.size T1 cs ∧ AtC (((w.alloc (.cells cs T1)).alloc (.cells ds T2)).alloc C) (w.heap.size + 1) T2 ds := by
  refine ⟨((AtC.new w T1 cs).alloc _).alloc _, ?_⟩
  have := (AtC.new (w.alloc (.cells cs T1)) T2 ds).alloc C
  simpa using this
theorem cp_after {w w1 : World} {T e : TypeId} {m n : Nat} {cs Z : Array Value} {ds : List Value} {v' : Value} (R1 : w1.ownsRow (w.heap.size + 1 + 1) e m v' n ds)
    (R2 : (((w.alloc (.cells cs T)).alloc (.cells Z T)).alloc (.cells #[] e)).grownBy w1 (Value.slice (some ⟨w.heap.size + 1 + 1, 0, none⟩) 0 0).ownBlock) :
    ∃ a1 c1, v' = .slice a1 n c1 ∧ Below w.heap.size w w1 ∧ AtC w1 w.heap.size T cs ∧ AtC w1 (w.heap.size + 1) T Z := by
  obtain ⟨k0, k1⟩ := AtC.two3 w T T cs Z (.cells #[] e)
  obtain ⟨a1, c1, e1⟩ : ∃ a1 c1, v' = .slice a1 n c1 := by
    rcases R1.2 with ⟨h1, h0⟩ | ⟨g, cap, cur, h1, -⟩
    · exact ⟨none, 0, by rw [h1, h0]⟩
    · exact ⟨_, _, h1⟩
  exact ⟨a1, c1, e1, below_of_append (alloc3_below w _ _ _) (by simp; omega) R2 (fun k hk => by simp [Value.ownBlock] at hk; omega), k0.grown R2 (by simp [Value.ownBlock]; omega), k1.grown R2 (by simp [Value.ownBlock])⟩
end Go.Proofs.YtggjillpfclajaaGreat.Kit
namespace Go.Proofs.YtggjillpfclajaaGreat
open Go.RowKit Kit
set_option maxRecDepth 100000 in
set_option maxHeartbeats 800000 in
theorem copyI_any (k l : Int) (v : Value) (xs : List Int) (w : World) (hv : RInts w v xs) (hl : xs.length ≤ 1048576) :
    Calls Tryz.prog 79 #[.agg #[.int .i64 k, .int .i64 l, v]] w fun e w' => ∃ u, e = .returned (.agg #[.int .i64 k, .int .i64 l, u]) ∧ ROwns w' w.heap.size 3 u (ic xs) ∧ Below w.heap.size w w' := by
  have HV := hide hv
  obtain ⟨a, c, rfl, -⟩ := hv
  have HL : Hid (xs.length ≤ 100000000000) := Nat.le_trans hl (by decide)
  clear hl
  go_enter Tryz.func79, Tryz.ntmps79
  go_wp2_with (at_builtin; refine wpList_append_copy _ rfl _ _ 47 rfl (w.heap.size + 1 + 1) 3 Tryz.underlying47 _ 1 8 Tryz.i3 rfl (by decide) (by decide) (.slice (some ⟨w.heap.size + 1 + 1, 0, none⟩) 0 0) rfl (lit0_at w _ _ 3 1) (by simp) _ rfl xs.length (ic xs) (((HV.out.alloc _).alloc _).alloc _).rc (by rw [ic_length, Nat.mul_one]) (ic_one xs) HL.out ?_; intro v' w1 R1 R2 R3; obtain ⟨a1, c1, rfl, B1, K0, K1⟩ := cp_after R1 R2; have p0 : w1.cell? ⟨w.heap.size, 0, none⟩ = some (.int .i64 k) := K0.cell 0; have p1 : w1.cell? ⟨w.heap.size, 1, none⟩ = some (.int .i64 l) := K0.cell 1; have p2 : w1.cell? ⟨w.heap.size, 2, none⟩ = some (.slice a xs.length c) := K0.cell 2; have y2 := K0.frozen 2; have q0 : w1.cell? ⟨w.heap.size + 1, 0, none⟩ = some (.int .i64 0) := K1.cell 0; have q1 : w1.cell? ⟨w.heap.size + 1, 1, none⟩ = some (.int .i64 0) := K1.cell 1; have q2 : w1.cell? ⟨w.heap.size + 1, 2, none⟩ = some (.slice none 0 0) := K1.cell 2; have z0 := K1.frozen 0; have z1 := K1.frozen 1; have z2 := K1.frozen 2; have HR := hide R1; have HB := hide B1; clear R1 R2 R3 K0 K1 B1)
  have HO : Hid (ROwns w1 (w.heap.size + 1 + 1) 3 (.slice a1 xs.length c1) (ic xs)) := by show ROwns _ _ _ _ _; unfold ROwns; rw [ic_length]; exact HR.out
  refine bodyPost_ret (v := .agg #[.int .i64 k, .int .i64 l, .slice a1 xs.length c1]) (by simp [results, go_sem, q0, q1, q2]) rfl ⟨_, rfl, ?_, ?_⟩
  · exact ((((((HO.out.setCell_other (by omega) _).setCell_other (by omega) _).setCell_other (by omega) _).setCell_other (by omega) _)).base_le (by omega))
  · exact ((((HB.out.setCell (by simp) _).setCell (by simp) _).setCell (by simp) _).setCell (by simp) _)
set_option maxRecDepth 100000 in
set_option maxHeartbeats 800000 in
theorem copyK_any (d : Bool) (t : ByteArray) (v : Value) (xs : List Sl) (w : World) (hv : RSl w v xs) (hl : xs.length ≤ 1048576) :
    Calls Tryz.prog 80 #[.agg #[.bool d, v, .string t]] w fun e w' => ∃ u, e = .returned (.agg #[.bool d, u, .string t]) ∧ SOwns w' w.heap.size 132 u xs ∧ Below w.heap.size w w' := by
  have HV := hide hv
  obtain ⟨a, c, rfl, -⟩ := hv
  have HL : Hid (xs.length ≤ 100000000000) := Nat.le_trans hl (by decide)
  clear hl
  go_enter Tryz.func80, Tryz.ntmps80
  go_wp2_with (at_builtin; refine wpList_append_copy _ rfl _ _ 113 rfl (w.heap.size + 1 + 1) 132 Tryz.underlying113 _ 2 24 Tryz.i132 rfl (by decide) (by decide) (.slice (some ⟨w.heap.size + 1 + 1, 0, none⟩) 0 0) rfl (lit0_at w _ _ 132 2) (by simp) _ rfl xs.length (sc xs) (((HV.out.alloc _).alloc _).alloc _).rc (sc_length xs) (sc_one xs) HL.out ?_; intro v' w1 R1 R2 R3; obtain ⟨a1, c1, rfl, B1, K0, K1⟩ := cp_after R1 R2; have p0 : w1.cell? ⟨w.heap.size, 0, none⟩ = some (.bool d) := K0.cell 0; have p1 : w1.cell? ⟨w.heap.size, 1, none⟩ = some (.slice a xs.length c) := K0.cell 1; have p2 : w1.cell? ⟨w.heap.size, 2, none⟩ = some (.string t) := K0.cell 2; have y2 := K0.frozen 1; have q0 : w1.cell? ⟨w.heap.size + 1, 0, none⟩ = some (.bool false) := K1.cell 0; have q1 : w1.cell? ⟨w.heap.size + 1, 1, none⟩ = some (.slice none 0 0) := K1.cell 1; have q2 : w1.cell? ⟨w.heap.size + 1, 2, none⟩ = some (.string ⟨#[]⟩) := K1.cell 2; have z0 := K1.frozen 0; have z1 := K1.frozen 1; have z2 := K1.frozen 2; have HR := hide R1; have HB := hide B1; clear R1 R2 R3 K0 K1 B1)
  have HO : Hid (SOwns w1 (w.heap.size + 1 + 1) 132 (.slice a1 xs.length c1) xs) := HR.out
  refine bodyPost_ret (v := .agg #[.bool d, .slice a1 xs.length c1, .string t]) (by simp [results, go_sem, q0, q1, q2]) rfl ⟨_, rfl, ?_, ?_⟩
  · exact ((((((HO.out.setCell_low (by omega) _).setCell_low (by omega) _).setCell_low (by omega) _).setCell_low (by omega) _)).base_le (by omega))
  · exact ((((HB.out.setCell (by simp) _).setCell (by simp) _).setCell (by simp) _).setCell (by simp) _)
/-- A block while its names are cloned: its box, the result's block, its slots. -/
structure Nb (w w' : World) (d : Bool) (t : ByteArray) (u : Value) (xs : List Sl) : Prop where
  box : AtC w' w.heap.size 115 #[.bool d, u, .string t]
  res : AtC w' (w.heap.size + 1) 115 #[.bool false, .slice none 0 0, .string ⟨#[]⟩]
  own : SOwns w' (w.heap.size + 1 + 1) 132 u xs
  bel : Below w.heap.size w w'
theorem Nb.below {w w' w1 : World} {d : Bool} {t : ByteArray} {u : Value} {xs : List Sl} (h : Nb w w' d t u xs) (hb : Below w'.heap.size w' w1) : Nb w w1 d t u xs := ⟨h.box.over hb, h.res.over hb, h.own.below hb (Nat.le_refl _), h.bel.trans (hb.mono h.bel.size)⟩
theorem Nb.set {w w' : World} {d : Bool} {t : ByteArray} {g c : Nat} {xs : List Sl} (h : Nb w w' d t (.slice (some ⟨g, 0, none⟩) xs.length c) xs) (j : Nat) (hj : j < xs.length) : Nb w (w'.setCell ⟨g, j * 2, none⟩ (.string xs[j].1)) d t (.slice (some ⟨g, 0, none⟩) xs.length c) xs := by
  have hg := (h.own.lt g rfl).1
  have h2 := (h.own.set_name j hj xs[j].1).1
  have e : xs.set j (xs[j].1, xs[j].2) = xs := by rw [show (xs[j].1, xs[j].2) = xs[j] from rfl, List.set_getElem_self]
  rw [e] at h2
  exact ⟨h.box.other (by omega) _, h.res.other (by omega) _, h2, h.bel.setCell (by show w.heap.size ≤ g; omega) _⟩
set_option maxRecDepth 100000 in
set_option maxHeartbeats 1600000 in
theorem newK_any (d : Bool) (t : ByteArray) (v : Value) (xs : List Sl) (w : World) (hv : RSl w v xs) (hB : bigB 1048576 (d, xs, t)) :
    Calls Tryz.prog 89 #[.agg #[.bool d, v, .string t]] w fun e w' => ∃ u, e = .returned (.agg #[.bool d, u, .string t]) ∧ SOwns w' w.heap.size 132 u xs ∧ Below w.heap.size w w' := by
  have HV := hide hv
  have HB := hide hB
  obtain ⟨a, c, rfl, -⟩ := hv
  have hxl : xs.length ≤ 1048576 := hB.1
  clear hB
  go_enter Tryz.func89, Tryz.ntmps89
  go_wp2_with fail
  refine (clone_any t _ (Nat.le_trans HB.out.2.2 (by decide))).mono ?_
  rintro e w1 ⟨rfl, B1⟩
  obtain ⟨k0, k1⟩ := AtC.two3 w 115 115 #[.bool d, .slice a xs.length c, .string t] #[.bool false, .slice none 0 0, .string ⟨#[]⟩] (.cells #[] 132)
  have K0 : AtC w1 w.heap.size 115 #[.bool d, .slice a xs.length c, .string t] := ((AtC.new w 115 _).alloc _).over B1
  have K1 : AtC w1 (w.heap.size + 1) 115 #[.bool false, .slice none 0 0, .string ⟨#[]⟩] := by
    have := (AtC.new (w.alloc (.cells #[.bool d, .slice a xs.length c, .string t] 115)) 115 #[.bool false, .slice none 0 0, .string ⟨#[]⟩]).over B1
    simpa using this
  have BW : Below w.heap.size w w1 := (((Below.refl _ w).alloc (Nat.le_refl _) _).alloc (by simp) _).trans (B1.mono (by simp; omega))
  have p1 : w1.cell? ⟨w.heap.size, 1, none⟩ = some (.slice a xs.length c) := K0.cell 1
  have p2 : w1.cell? ⟨w.heap.size, 2, none⟩ = some (.string t) := K0.cell 2
  have y2 := K0.frozen 2
  have KS := K0.set 2 (.string t)
  have HK : Hid (AtC (w1.setCell ⟨w.heap.size, 2, none⟩ (.string t)) w.heap.size 115 #[.bool d, .slice a xs.length c, .string t] ∧ AtC (w1.setCell ⟨w.heap.size, 2, none⟩ (.string t)) (w.heap.size + 1) 115 #[.bool false, .slice none 0 0, .string ⟨#[]⟩] ∧ Below w.heap.size w (w1.setCell ⟨w.heap.size, 2, none⟩ (.string t))) := ⟨K0.set 2 (.string t), K1.other (by omega) _, BW.setCell (by simp) _⟩
  have hsz : w.heap.size + 1 + 1 ≤ w1.heap.size := by have := B1.size; simpa using this
  have x1 := HK.out.1
  obtain ⟨W1, hW1⟩ : ∃ W1, w1.setCell ⟨w.heap.size, 2, none⟩ (.string t) = W1 := ⟨_, rfl⟩
  have hsz1 : W1.heap.size = w1.heap.size := by rw [← hW1]; simp
  rw [hW1] at HK x1
  have r1 : W1.cell? ⟨w.heap.size, 1, none⟩ = some (.slice a xs.length c) := x1.cell 1
  clear B1 K0 K1 BW KS k0 k1 x1
  go_wp2_with fail
  refine (newS_any _ xs _ (HV.out.below HK.out.2.2 (Nat.le_refl _)) HB.out.1).mono ?_
  rintro e w2 ⟨u, rfl, O2, B2⟩
  obtain ⟨a2, c2, rfl⟩ := O2.rsl.form
  have ND : Nb w (w2.setCell ⟨w.heap.size, 1, none⟩ (.slice a2 xs.length c2)) d t (.slice a2 xs.length c2) xs := by
    have O3 : SOwns w2 (w.heap.size + 1 + 1) 132 (.slice a2 xs.length c2) xs := O2.base_le (by omega)
    exact ⟨(HK.out.1.over B2).set 1 _, (HK.out.2.1.over B2).other (by omega) _, O3.setCell_low (by omega) _, (HK.out.2.2.trans (B2.mono HK.out.2.2.size)).setCell (by simp) _⟩
  have x2 := HK.out.1.over B2
  have s1 : w2.cell? ⟨w.heap.size, 1, none⟩ = some (.slice a xs.length c) := x2.cell 1
  have f1 := x2.frozen 1
  obtain ⟨W2, hW2⟩ : ∃ W2, w2.setCell ⟨w.heap.size, 1, none⟩ (.slice a2 xs.length c2) = W2 := ⟨_, rfl⟩
  rw [hW2] at ND
  have HN := hide ND
  have t1 : W2.cell? ⟨w.heap.size, 1, none⟩ = some (.slice a2 xs.length c2) := ND.box.cell 1
  clear x2 O2 B2 ND HK r1 p1 p2 y2 hW1 hsz1 hsz
  go_wp2
  go_loopw [16] (fun i wr => ∃ j : Nat, j ≤ xs.length ∧ i = .int .i64 j ∧ Hid (Nb w wr d t (.slice a2 xs.length c2) xs)) (fun i _ => xs.length - (intOf i).toNat)
  case atStart => exact ⟨0, Nat.zero_le _, rfl, HN.out⟩
  case round =>
    obtain ⟨j, hj, rfl, HR⟩ := hrel
    by_cases hlt : j < xs.length
    · obtain ⟨g, c3, e3, m1, m2, m3, m4, m5, -⟩ := HR.out.own.at j hlt
      simp only [Value.slice.injEq] at e3
      obtain ⟨rfl, -, rfl⟩ := e3
      have HZ : Hid (∀ w6, Below (wr.alloc (.cells #[.string xs[j].1, .int .i64 xs[j].2] 132)).heap.size (wr.alloc (.cells #[.string xs[j].1, .int .i64 xs[j].2] 132)) w6 → Nb w w6 d t (.slice (some ⟨g, 0, none⟩) xs.length c2) xs ∧ Nb w (w6.setCell ⟨g, j * 2, none⟩ (.string xs[j].1)) d t (.slice (some ⟨g, 0, none⟩) xs.length c2) xs ∧ AtC w6 wr.heap.size 132 #[.string xs[j].1, .int .i64 xs[j].2] ∧ AtC (w6.setCell ⟨g, j * 2, none⟩ (.string xs[j].1)) wr.heap.size 132 #[.string xs[j].1, .int .i64 xs[j].2]) := fun w6 b6 =>
        have n6 := (HR.out.below ((Below.refl _ wr).alloc (Nat.le_refl _) _)).below b6
        have a6 := (AtC.new wr 132 #[.string xs[j].1, .int .i64 xs[j].2]).over b6
        ⟨n6, n6.set j hlt, a6, a6.other (by omega) _⟩
      have HSZ : Hid (xs[j].1.size ≤ 281474976710656) := Nat.le_trans (HB.out.2.1 j hlt) (by decide)
      obtain ⟨nm, hnm⟩ : ∃ nm, xs[j].1 = nm := ⟨_, rfl⟩
      obtain ⟨z, hz⟩ : ∃ z, xs[j].2 = z := ⟨_, rfl⟩
      rw [hnm] at m1 HZ HSZ
      rw [hz] at m2 HZ
      have HS : Hid (∀ w6, Below (wr.alloc (.cells #[.string nm, .int .i64 z] 132)).heap.size (wr.alloc (.cells #[.string nm, .int .i64 z] 132)) w6 → (w6.cell? ⟨w.heap.size, 1, none⟩ = some (.slice (some ⟨g, 0, none⟩) xs.length c2) ∧ w6.cell? ⟨wr.heap.size, 0, none⟩ = some (.string nm)) ∧ ((w6.setCell ⟨g, j * 2, none⟩ (.string nm)).cell? ⟨w.heap.size, 1, none⟩ = some (.slice (some ⟨g, 0, none⟩) xs.length c2) ∧ (w6.setCell ⟨g, j * 2, none⟩ (.string nm)).cell? ⟨wr.heap.size, 0, none⟩ = some (.string nm)) ∧ w6.cell? ⟨g, j * 2, none⟩ = some (.string nm) ∧ w6.frozen? ⟨g, j * 2, none⟩ = false) := fun w6 b6 => by
        obtain ⟨h1, h2, h3, h4⟩ := HZ.out w6 b6
        obtain ⟨g', c', e', n1, n2, n3, -⟩ := h1.own.at j hlt
        simp only [Value.slice.injEq, Option.some.injEq, Addr.mk.injEq] at e'
        obtain ⟨⟨rfl, -, -⟩, -, -⟩ := e'
        rw [hnm] at n1
        exact ⟨⟨h1.box.cell 1, h3.cell 0⟩, ⟨h2.box.cell 1, h4.cell 0⟩, n1, n3 _⟩
      have b1 : wr.cell? ⟨w.heap.size, 1, none⟩ = some (.slice (some ⟨g, 0, none⟩) xs.length c2) := HR.out.box.cell 1
      have j0 : (0 : Int) ≤ (j : Int) := by omega
      have j1 : (j : Int) < (xs.length : Int) := by omega
      have hbx := HR.out.box.lt
      clear hnm hz m3 HR HV HB t1
      go_wp2_with fail
      go_region_held3 (fun w' => w'.cell? ⟨w.heap.size, 1, none⟩ = some (.slice (some ⟨g, 0, none⟩) xs.length c2) ∧ w'.cell? ⟨wr.heap.size, 0, none⟩ = some (.string nm)) (first | exact (HS.out _ (Below.refl _ _).drew).1 | exact (HS.out _ (of_drew B6)).1 | exact (HS.out _ (of_drew B6)).2.1) ((go_at_call 87; refine (clone_any nm _ HSZ.out).mono ?_; rintro e w6 ⟨rfl, B6⟩; obtain ⟨-, -, n1, n2⟩ := HS.out _ (of_drew B6)))
      have HN6 := hide (HZ.out _ (of_drew B6)).2.1
      clear B6 n1 n2
      go_wp2
      go_roundw
      case rel => exact ⟨j + 1, by omega, by go_num, HN6.out⟩
      case measure => simp [intOf]; omega
    · have q0 : wr.cell? ⟨w.heap.size, 0, none⟩ = some (.bool d) := HR.out.box.cell 0
      have q1 : wr.cell? ⟨w.heap.size, 1, none⟩ = some (.slice a2 xs.length c2) := HR.out.box.cell 1
      have q2 : wr.cell? ⟨w.heap.size, 2, none⟩ = some (.string t) := HR.out.box.cell 2
      have r0 : wr.cell? ⟨w.heap.size + 1, 0, none⟩ = some (.bool false) := HR.out.res.cell 0
      have r1 : wr.cell? ⟨w.heap.size + 1, 1, none⟩ = some (.slice none 0 0) := HR.out.res.cell 1
      have r2 : wr.cell? ⟨w.heap.size + 1, 2, none⟩ = some (.string ⟨#[]⟩) := HR.out.res.cell 2
      have z0 := HR.out.res.frozen 0
      have z1 := HR.out.res.frozen 1
      have z2 := HR.out.res.frozen 2
      clear t1
      go_wp2
      refine bodyPost_ret (v := .agg #[.bool d, .slice a2 xs.length c2, .string t]) (by simp [results, go_sem, r0, r1, r2]) rfl ⟨_, rfl, ?_, ?_⟩
      · exact (((HR.out.own.setCell_low (by omega) _).setCell_low (by omega) _).setCell_low (by omega) _).base_le (by omega)
      · exact ((HR.out.bel.setCell (by simp) _).setCell (by simp) _).setCell (by simp) _
end Go.Proofs.YtggjillpfclajaaGreat
/- A copy of bits: spec.l05Copy by its contract. -/
namespace Go.Proofs.YtggjillpfclajaaGreat.Kit
open Go.RowKit
/-- A new list without any. -/
def MkE (T : TypeId) : Mk := .val [] (fun lo hi w v => v = .slice (some ⟨lo, 0, none⟩) 0 0 ∧ hi = lo + 1 ∧ AtC w lo T #[]) (fun _ _ _ _ _ h hb => ⟨h.1, h.2.1, h.2.2.over hb⟩)
/-- A copy of flags, appended to a new list without any (the k-th operation's). -/
def MkC (k j : Nat) (xs : List Bool) (B : Nat) : Mk := .val1 [k, j] k (by simp) (fun lo hi w u v => ∃ a c, v = .slice a xs.length c ∧ ROwns w B 4 v (fc xs) ∧ ∀ i, v.ownBlock = some i → (lo ≤ i ∧ i < hi) ∨ u.ownBlock = some i)
  (fun _ _ _ _ _ _ h hb => by obtain ⟨a, c, h1, h2, h3⟩ := h; exact ⟨a, c, h1, h2.below hb (Nat.le_refl _), h3⟩)
theorem AtC.empty {w : World} {g : Nat} {T : TypeId} (h : AtC w g T #[]) (B : Nat) (hB : B ≤ g) (m : Nat) : w.ownsRow B T m (.slice (some ⟨g, 0, none⟩) 0 0) 0 [] :=
  ⟨by simp, .inr ⟨g, 0, #[], rfl, hB, h, Nat.le_refl _, Nat.zero_le _, by simp, by simp⟩⟩
end Go.Proofs.YtggjillpfclajaaGreat.Kit
namespace Go.Proofs.YtggjillpfclajaaGreat
open Go.RowKit Kit
set_option maxRecDepth 100000 in
set_option maxHeartbeats 1600000 in
theorem copyB_any (u v : Value) (xs ys : List Bool) (w : World) (hu : RFl w u xs) (hv : RFl w v ys) (hx : xs.length ≤ 1048576) (hy : ys.length ≤ 1048576) :
    Calls Tryz.prog 78 #[.agg #[u, v]] w fun e w' => ∃ u' v', e = .returned (.agg #[u', v']) ∧ Two w' w.heap.size u' v' xs ys ∧ Below w.heap.size w w' := by
  have HU := hide hu
  have HV := hide hv
  obtain ⟨a1, c1, rfl, -⟩ := hu
  obtain ⟨a2, c2, rfl, -⟩ := hv
  have HX : Hid (xs.length ≤ 100000000000) := Nat.le_trans hx (by decide)
  have HY : Hid (ys.length ≤ 100000000000) := Nat.le_trans hy (by decide)
  clear hx hy
  go_enter Tryz.func78, Tryz.ntmps78
  go_wp2_with fail
  have HC : Hid (∀ W, Below ((w.alloc (.cells #[.slice a1 xs.length c1, .slice a2 ys.length c2] 33)).alloc (.cells #[.slice none 0 0, .slice none 0 0] 33)).drew.heap.size ((w.alloc (.cells #[.slice a1 xs.length c1, .slice a2 ys.length c2] 33)).alloc (.cells #[.slice none 0 0, .slice none 0 0] 33)).drew W → AtC W w.heap.size 33 #[.slice a1 xs.length c1, .slice a2 ys.length c2] ∧ AtC W (w.heap.size + 1) 33 #[.slice none 0 0, .slice none 0 0] ∧ Below w.heap.size w W ∧ w.heap.size + 1 + 1 ≤ W.heap.size) := fun W b => by
    have b2 := of_drew b
    have k1 := (AtC.new (w.alloc (.cells #[.slice a1 xs.length c1, .slice a2 ys.length c2] 33)) 33 #[.slice none 0 0, .slice none 0 0]).over b2
    have sz := b2.size
    simp at k1 sz
    exact ⟨((AtC.new w 33 _).alloc _).over b2, k1, (((Below.refl _ w).alloc (Nat.le_refl _) _).alloc (by simp) _).trans (b2.mono (by simp; omega)), sz⟩
  refine wp_region_mks (by kernel_rfl) [0, 1, 2, 3, 4, 5, 6, 7] [8, 9] [3, 4, 5, 6, 7, 8, 9, 10] (fun i => match i with | 0 => MkE 4 | 1 => .const [] (.pointer (some ⟨w.heap.size, 0, none⟩)) | 2 => .const [1] (.slice a1 xs.length c1) | 3 => MkC 0 2 xs (w.heap.size + 1 + 1) | 4 => MkE 4 | 5 => .const [] (.pointer (some ⟨w.heap.size, 1, none⟩)) | 6 => .const [5] (.slice a2 ys.length c2) | 7 => MkC 4 6 ys (w.heap.size + 1 + 1) | _ => .triv) (by kernel_rfl) (by kernel_rfl) (by kernel_rfl) (by kernel_rfl) rfl ?_ ?_
  · intro j hj s x iv W hd hp K hK
    simp only [List.mem_cons, List.not_mem_nil, or_false] at hj
    rcases hj with rfl | rfl | rfl | rfl | rfl | rfl | rfl | rfl
    · refine wpOp_step (o := _) rfl fun K' hK' => ?_
      have HK := hide (fun v W' h1 h2 => hK' _ _ (hK v W' h1 h2))
      clear hK hK' hp hd
      simp only [actOf]
      go_simp
      have F := HK.out (.slice (some ⟨W.heap.size, 0, none⟩) 0 0) (W.alloc (.cells #[] 4)) ((Below.refl _ W).alloc (Nat.le_refl _) _) ⟨rfl, by simp, AtC.new W 4 _⟩
      simp [go_sem, actOf, upd] at F
      exact F
    · refine wpOp_step (o := _) rfl fun K' hK' => ?_
      have HK := hide (fun v W' h1 h2 => hK' _ _ (hK v W' h1 h2))
      clear hK hK' hp hd
      simp only [actOf]
      go_simp
      have F := HK.out (.pointer (some ⟨w.heap.size, 0, none⟩)) W (Below.refl _ _) rfl
      simp [go_sem, actOf, upd] at F
      exact F
    · refine wpOp_step (o := _) rfl fun K' hK' => ?_
      have HK := hide (fun v W' h1 h2 => hK' _ _ (hK v W' h1 h2))
      have e1 : x 1 = .pointer (some ⟨w.heap.size, 0, none⟩) := hp.post 1 (hd 1 (show 1 ∈ [1] from by decide))
      have q0 : W.cell? ⟨w.heap.size, 0, none⟩ = some (.slice a1 xs.length c1) := (HC.out W hp.bel).1.cell 0
      clear hK hK' hp hd
      simp only [actOf]
      go_simp
      have F := HK.out (.slice a1 xs.length c1) W (Below.refl _ _) rfl
      simp [go_sem, actOf, upd, e1] at F
      exact F
    · refine wpOp_step (o := _) rfl fun K' hK' => ?_
      have HK := hide (fun v W' h1 h2 => hK' _ _ (hK v W' h1 h2))
      have e0 : x 0 = .slice (some ⟨(iv 0).1, 0, none⟩) 0 0 ∧ (iv 0).2 = (iv 0).1 + 1 ∧ AtC W (iv 0).1 4 #[] := hp.post 0 (hd 0 (show 0 ∈ [0, 2] from by decide))
      have e2 : x 2 = .slice a1 xs.length c1 := hp.post 2 (hd 2 (show 2 ∈ [0, 2] from by decide))
      have bl := HC.out W hp.bel
      have l0 := (hp.lo 0 (hd 0 (show 0 ∈ [0, 2] from by decide))).1
      simp [World.drew] at l0
      clear hK hK' hp hd
      obtain ⟨f0, -, A0⟩ := e0
      simp only [actOf, Act.put, List.setIfInBounds_toArray, List.set_cons_succ, List.set_cons_zero, Nat.reduceAdd, List.getElem_toArray, List.getElem_cons_succ, List.getElem_cons_zero]
      refine step_append_copy0 (a := ⟨_, []⟩) W rfl (.tmp 3) (.tmp 5) 22 rfl (w.heap.size + 1 + 1) 4 Tryz.underlying22 _ 1 1 Tryz.i4 rfl (by decide) (by decide) (some ⟨(iv 0).1, 0, none⟩) (by exact f0) (A0.empty _ (by omega) 1) bl.2.2.2 (.slice a1 xs.length c1) (by exact e2) xs.length (fc xs) (HU.out.below bl.2.2.1 (Nat.le_refl _)).rc (by rw [fc_length, Nat.mul_one]) (fc_one xs) HX.out ?_
      intro v' w' R1 R2 R3
      have O1 : ROwns w' (w.heap.size + 1 + 1) 4 v' (fc xs) := by unfold ROwns; rw [fc_length]; exact R1
      obtain ⟨a3, c3, e3⟩ := O1.rfl.form
      have F := HK.out v' w' R2 ⟨a3, c3, e3, O1, fun i hi => R3.elim (fun e => .inr (by rw [upd_ne _ _ _ _ (by decide), f0]; rw [hi] at e; exact e.symm)) (fun e => .inl ⟨by rw [hi] at e; cases e; exact Nat.le_refl _, (O1.lt i hi).2⟩)⟩
      simp [go_sem, actOf, upd] at F
      simp only [Act.put, List.setIfInBounds_toArray, List.set_cons_succ, List.set_cons_zero]
      exact F
    · refine wpOp_step (o := _) rfl fun K' hK' => ?_
      have HK := hide (fun v W' h1 h2 => hK' _ _ (hK v W' h1 h2))
      clear hK hK' hp hd
      simp only [actOf]
      go_simp
      have F := HK.out (.slice (some ⟨W.heap.size, 0, none⟩) 0 0) (W.alloc (.cells #[] 4)) ((Below.refl _ W).alloc (Nat.le_refl _) _) ⟨rfl, by simp, AtC.new W 4 _⟩
      simp [go_sem, actOf, upd] at F
      exact F
    · refine wpOp_step (o := _) rfl fun K' hK' => ?_
      have HK := hide (fun v W' h1 h2 => hK' _ _ (hK v W' h1 h2))
      clear hK hK' hp hd
      simp only [actOf]
      go_simp
      have F := HK.out (.pointer (some ⟨w.heap.size, 1, none⟩)) W (Below.refl _ _) rfl
      simp [go_sem, actOf, upd] at F
      exact F
    · refine wpOp_step (o := _) rfl fun K' hK' => ?_
      have HK := hide (fun v W' h1 h2 => hK' _ _ (hK v W' h1 h2))
      have e5 : x 5 = .pointer (some ⟨w.heap.size, 1, none⟩) := hp.post 5 (hd 5 (show 5 ∈ [5] from by decide))
      have q0 : W.cell? ⟨w.heap.size, 1, none⟩ = some (.slice a2 ys.length c2) := (HC.out W hp.bel).1.cell 1
      clear hK hK' hp hd
      simp only [actOf]
      go_simp
      have F := HK.out (.slice a2 ys.length c2) W (Below.refl _ _) rfl
      simp [go_sem, actOf, upd, e5] at F
      exact F
    · refine wpOp_step (o := _) rfl fun K' hK' => ?_
      have HK := hide (fun v W' h1 h2 => hK' _ _ (hK v W' h1 h2))
      have e4 : x 4 = .slice (some ⟨(iv 4).1, 0, none⟩) 0 0 ∧ (iv 4).2 = (iv 4).1 + 1 ∧ AtC W (iv 4).1 4 #[] := hp.post 4 (hd 4 (show 4 ∈ [4, 6] from by decide))
      have e6 : x 6 = .slice a2 ys.length c2 := hp.post 6 (hd 6 (show 6 ∈ [4, 6] from by decide))
      have bl := HC.out W hp.bel
      have l0 := (hp.lo 4 (hd 4 (show 4 ∈ [4, 6] from by decide))).1
      simp [World.drew] at l0
      clear hK hK' hp hd
      obtain ⟨f0, -, A0⟩ := e4
      simp only [actOf, Act.put, List.setIfInBounds_toArray, List.set_cons_succ, List.set_cons_zero, Nat.reduceAdd, List.getElem_toArray, List.getElem_cons_succ, List.getElem_cons_zero]
      refine step_append_copy0 (a := ⟨_, []⟩) W rfl (.tmp 7) (.tmp 9) 22 rfl (w.heap.size + 1 + 1) 4 Tryz.underlying22 _ 1 1 Tryz.i4 rfl (by decide) (by decide) (some ⟨(iv 4).1, 0, none⟩) (by exact f0) (A0.empty _ (by omega) 1) bl.2.2.2 (.slice a2 ys.length c2) (by exact e6) ys.length (fc ys) (HV.out.below bl.2.2.1 (Nat.le_refl _)).rc (by rw [fc_length, Nat.mul_one]) (fc_one ys) HY.out ?_
      intro v' w' R1 R2 R3
      have O1 : ROwns w' (w.heap.size + 1 + 1) 4 v' (fc ys) := by unfold ROwns; rw [fc_length]; exact R1
      obtain ⟨a3, c3, e3⟩ := O1.rfl.form
      have F := HK.out v' w' R2 ⟨a3, c3, e3, O1, fun i hi => R3.elim (fun e => .inr (by rw [upd_ne _ _ _ _ (by decide), f0]; rw [hi] at e; exact e.symm)) (fun e => .inl ⟨by rw [hi] at e; cases e; exact Nat.le_refl _, (O1.lt i hi).2⟩)⟩
      simp [go_sem, actOf, upd] at F
      simp only [Act.put, List.setIfInBounds_toArray, List.set_cons_succ, List.set_cons_zero]
      exact F
  · intro x iv W hp
    obtain ⟨a3, c3, e3, O3, own3⟩ := hp.post 3 (by decide)
    obtain ⟨a7, c7, e7, O7, own7⟩ := hp.post 7 (by decide)
    obtain ⟨f0, z0, -⟩ := hp.post 0 (by decide)
    obtain ⟨f4, z4, -⟩ := hp.post 4 (by decide)
    have p04 := hp.apart 0 (by decide) 4 (by decide) (by decide)
    have p07 := hp.apart 0 (by decide) 7 (by decide) (by decide)
    have p34 := hp.apart 3 (by decide) 4 (by decide) (by decide)
    have p37 := hp.apart 3 (by decide) 7 (by decide) (by decide)
    have l3 := (hp.lo 3 (by decide)).2.1
    have l7 := (hp.lo 7 (by decide)).2.1
    have hne : ∀ k, (x 3).ownBlock = some k → (x 7).ownBlock ≠ some k := fun k h1 h2 => by
      have q3 := own3 k h1
      have q7 := own7 k h2
      rw [f0] at q3
      rw [f4] at q7
      simp only [Value.ownBlock, Option.some.injEq] at q3 q7
      omega
    obtain ⟨k0, k1, bel, -⟩ := HC.out W hp.bel
    rw [e3] at O3 hne
    rw [e7] at O7 hne
    have HT : Hid (Two W (w.heap.size + 1 + 1) (.slice a3 xs.length c3) (.slice a7 ys.length c7) xs ys ∧ Below w.heap.size w W) := ⟨⟨O3, O7, hne⟩, bel⟩
    have r0 : W.cell? ⟨w.heap.size + 1, 0, none⟩ = some (.slice none 0 0) := k1.cell 0
    have r1 : W.cell? ⟨w.heap.size + 1, 1, none⟩ = some (.slice none 0 0) := k1.cell 1
    have z5 := k1.frozen 0
    have z6 := k1.frozen 1
    clear hp own3 own7 O3 O7 hne k0 k1 bel f0 f4 z0 z4 p04 p07 p34 p37 l3 l7
    simp only [actOf, e3, e7]
    go_wp2_with fail
    rw [List.filterMap_nil]
    go_wp2
    refine bodyPost_ret (v := .agg #[.slice a3 xs.length c3, .slice a7 ys.length c7]) (by simp [results, go_sem, r0, r1]) rfl ⟨_, _, rfl, ?_, ?_⟩
    · exact ((HT.out.1.set_other (by omega) _).set_other (by omega) _).base_le (by omega)
    · exact (HT.out.2.setCell (by simp) _).setCell (by simp) _
end Go.Proofs.YtggjillpfclajaaGreat
/- A memory while those that lean are appended to it. No Go function is spoken of. -/
namespace Go.Proofs.YtggjillpfclajaaGreat.Kit
open Go.RowKit
/-- The cells of no memory. -/
def noM : Array Value := #[.slice none 0 0, .slice none 0 0, .slice none 0 0, .slice none 0 0, .slice none 0 0, .slice none 0 0, .int .i64 0]
theorem MO.soP {w : World} {S : Nat → Prop} {u v iv bv dv pv : Value} {m : MD} (h : MO w S u v iv bv dv pv m) : ∀ k, pv.ownBlock = some k → S k := by
  obtain ⟨S1, S2, S3, ts, h1, h2, h3, h4, h5, h6, h7⟩ := h
  exact fun k hk => h7 k (.inr (.inr (h4.so k hk)))
/-- One that leans is appended. -/
theorem MO.appD {w : World} {S : Nat → Prop} {u v iv bv dv pv : Value} {m : MD} (h : MO w S u v iv bv dv pv m) :
    ∃ ts, NOwns w 52 11 pv ts ∧ ts.length = m.ds.length ∧ ∀ (w1 w2 : World) (pv' : Value) (t' : Row) (x' : Dp), Below w.heap.size w w1 → KDep.O w1 t' x' → (∀ k, (KDep.p t').ownBlock = some k → w.heap.size ≤ k) →
      NOwns w2 52 11 pv' (ts ++ [t']) → w1.grownBy w2 pv.ownBlock → (∀ k, pv'.ownBlock = some k → pv.ownBlock = some k ∨ w1.heap.size ≤ k) → MO w2 (fun k => S k ∨ w.heap.size ≤ k) u v iv bv dv pv' { m with ds := m.ds ++ [x'] } := by
  obtain ⟨S1, S2, S3, ts, h1, h2, h3, h4, h5, h6, h7⟩ := h.bound
  refine ⟨ts, h4.row, h4.len, fun w1 w2 pv' t' x' hb hO hn hr hg hv => ?_⟩
  have hsz := hb.size
  have hlow : ∀ q, S1 q ∨ S2 q ∨ S3 q → q < w.heap.size := fun q hq => (h7 q hq).2
  have hSS : ∀ q, S1 q ∨ S2 q ∨ S3 q → S q := fun q hq => (h7 q hq).1
  have hoth : ∀ k, k < w.heap.size → pv.ownBlock ≠ some k → w2.heap[k]? = w.heap[k]? := fun k hk hne => (hg.block k (by omega) (fun e => hne e.symm)).trans (hb.block k hk)
  refine ⟨S1, S2, _, _, h1.of_heap fun k hk hlt => hoth k hlt (fun e => (h5 k hk).2 (h4.so k e)), h2.of_heap fun k hk => hoth k (h2.lt k hk).2 (fun e => h6 k (h3 k hk) (h4.so k e)), h3, h4.append hb hO hn hr hg hv, fun k hk => ⟨(h5 k hk).1, fun e => ?_⟩, fun k hk e => ?_, fun k hk => ?_⟩
  · rcases e with e | e
    · exact (h5 k hk).2 e.1
    · have := hlow k (.inl hk); omega
  · rcases e with e | e
    · exact h6 k hk e.1
    · have := hlow k (.inr (.inl hk)); omega
  · rcases hk with hk | hk | hk | hk
    · exact .inl (hSS k (.inl hk))
    · exact .inl (hSS k (.inr (.inl hk)))
    · exact .inl (hSS k (.inr (.inr hk.1)))
    · exact .inr hk
/-- A memory while it is copied: the argument's box, the result's block, the variable's block b, its parts. -/
structure Mz (w w' : World) (A : Array Value) (b : Nat) (u v iv bv dv pv : Value) (m : MD) : Prop where
  arg : AtC w' w.heap.size 40 A
  res : AtC w' (w.heap.size + 1) 40 noM
  box : AtC w' b 40 #[u, v, iv, bv, dv, pv, .int .i64 m.nx]
  own : MO w' (fun k => w.heap.size + 1 < k ∧ k ≠ b) u v iv bv dv pv m
  bel : Below w.heap.size w w'
  hb : w.heap.size + 1 < b
namespace Mz
variable {w w' w1 : World} {A : Array Value} {b : Nat} {u v iv bv dv pv : Value} {m : MD}
theorem below (h : Mz w w' A b u v iv bv dv pv m) (hb : Below w'.heap.size w' w1) : Mz w w1 A b u v iv bv dv pv m :=
  ⟨h.arg.over hb, h.res.over hb, h.box.over hb, h.own.below hb (Nat.le_refl _), h.bel.trans (hb.mono h.bel.size), h.hb⟩
theorem app (h : Mz w w' A b u v iv bv dv pv m) : ∃ ts, NOwns w' 52 11 pv ts ∧ ts.length = m.ds.length ∧ ∀ (w1 w2 : World) (pv' : Value) (t' : Row) (x' : Dp), Below w'.heap.size w' w1 → KDep.O w1 t' x' → (∀ k, (KDep.p t').ownBlock = some k → w'.heap.size ≤ k) →
    NOwns w2 52 11 pv' (ts ++ [t']) → w1.grownBy w2 pv.ownBlock → (∀ k, pv'.ownBlock = some k → pv.ownBlock = some k ∨ w1.heap.size ≤ k) →
    AtC w2 b 40 #[u, v, iv, bv, dv, pv, .int .i64 m.nx] ∧ Mz w (w2.setCell ⟨b, 5, none⟩ pv') A b u v iv bv dv pv' { m with ds := m.ds ++ [x'] } := by
  obtain ⟨ts, h1, h2, h3⟩ := h.own.appD
  refine ⟨ts, h1, h2, fun w1 w2 pv' t' x' hb hO hn hr hg hv => ?_⟩
  have hso := h.own.soP
  have hbs := h.box.lt
  have hsz := h.bel.size
  have hsz1 := hb.size
  have hr0 := h.res.lt
  have ha0 := h.arg.lt
  have e0 : AtC w2 w.heap.size 40 A := (hg.block _ (by omega) (fun e => by have := hso _ e.symm; omega)).trans (h.arg.over hb)
  have e1 : AtC w2 (w.heap.size + 1) 40 noM := (hg.block _ (by omega) (fun e => by have := hso _ e.symm; omega)).trans (h.res.over hb)
  have e2 : AtC w2 b 40 #[u, v, iv, bv, dv, pv, .int .i64 m.nx] := (hg.block _ (by omega) (fun e => by have := hso _ e.symm; omega)).trans (h.box.over hb)
  have d := h3 w1 w2 pv' t' x' hb hO hn hr hg hv
  have b2 : Below w.heap.size w w2 := (h.bel.trans (hb.mono hsz)).grown hg (by omega) (fun k hk => by have := hso k hk; omega)
  have hbb := h.hb
  refine ⟨e2, ⟨e0.other (by omega) _, e1.other (by omega) _, e2.set 5 pv', ?_, b2.setCell (by show w.heap.size ≤ b; omega) _, h.hb⟩⟩
  have d2 := d.mono (S' := fun k => w.heap.size + 1 < k ∧ k ≠ b) fun k hk => hk.elim id (fun e => ⟨by omega, by omega⟩)
  exact d2.of_heap fun k hk _ => heap_setCell_other w2 ⟨b, 5, none⟩ k pv' (by show k ≠ b; omega)
end Mz
/-- A copied disk. -/
def MkD (k : Nat) (xs ys : List Bool) (is : List Ino) (bs : List Blk) : Mk := .val [k] (fun lo hi w v => ∃ a1 c1 a2 c2 a3 c3 a4 c4, v = .agg #[.slice a1 xs.length c1, .slice a2 ys.length c2, .slice a3 is.length c3, .slice a4 bs.length c4] ∧ DO w (fun q => lo ≤ q ∧ q < hi) (.slice a1 xs.length c1) (.slice a2 ys.length c2) (.slice a3 is.length c3) (.slice a4 bs.length c4) xs ys is bs)
  (fun _ _ _ _ _ h hb => by obtain ⟨a1, c1, a2, c2, a3, c3, a4, c4, h1, h2⟩ := h; exact ⟨a1, c1, a2, c2, a3, c3, a4, c4, h1, h2.below hb (Nat.le_refl _)⟩)
/-- A new variable. -/
def MkW (T : TypeId) (Z : Array Value) : Mk := .val [] (fun lo hi w v => v = .pointer (some ⟨lo, 0, none⟩) ∧ hi = lo + 1 ∧ AtC w lo T Z) (fun _ _ _ _ _ h hb => ⟨h.1, h.2.1, h.2.2.over hb⟩)
/-- A memory of a disk, flags and a number, without those that lean. -/
def MkM3 (k l q n1 n2 n3 n4 n5 : Nat) (nx : Int) : Mk := ⟨[k, l, q], fun _ _ _ v x => ∃ a1 c1 a2 c2 a3 c3 a4 c4 a5 c5, x k = .agg #[.slice a1 n1 c1, .slice a2 n2 c2, .slice a3 n3 c3, .slice a4 n4 c4] ∧ x l = .slice a5 n5 c5 ∧ v = .agg #[.slice a1 n1 c1, .slice a2 n2 c2, .slice a3 n3 c3, .slice a4 n4 c4, .slice a5 n5 c5, .slice none 0 0, .int .i64 nx], fun _ _ _ _ _ _ h _ => h, fun _ _ _ _ x x' e h => by
  obtain ⟨a1, c1, a2, c2, a3, c3, a4, c4, a5, c5, h1, h2, h3⟩ := h
  exact ⟨a1, c1, a2, c2, a3, c3, a4, c4, a5, c5, by rw [← e k (by simp), h1], by rw [← e l (by simp), h2], h3⟩⟩
/-- The variable is stored, without those that lean. -/
theorem mz_stored {w W : World} {A : Array Value} {b lo hi : Nat} {u v iv bv dv : Value} {m : MD} (hA : AtC W w.heap.size 40 A) (hR : AtC W (w.heap.size + 1) 40 noM) (hb : AtC W b 40 noM) (hd : DO W (fun q => lo ≤ q ∧ q < hi) u v iv bv m.xs m.ys m.is m.bs) (hf : ROwns W (w.heap.size + 1 + 1) 4 dv (fc m.fs))
    (hsep : ∀ k, dv.ownBlock = some k → (k < lo ∨ hi ≤ k) ∧ k ≠ b) (hlo : w.heap.size + 1 < lo) (hbs : b < lo ∨ hi ≤ b) (bel : Below w.heap.size w W) (hbb : w.heap.size + 1 < b) (hds : m.ds = []) :
    Mz w (((((((W.setCell ⟨b, 0, none⟩ u).setCell ⟨b, 1, none⟩ v).setCell ⟨b, 2, none⟩ iv).setCell ⟨b, 3, none⟩ bv).setCell ⟨b, 4, none⟩ dv).setCell ⟨b, 5, none⟩ (.slice none 0 0)).setCell ⟨b, 6, none⟩ (.int .i64 m.nx)) A b u v iv bv dv (.slice none 0 0) m := by
  have hoth : ∀ k, k ≠ b → (((((((W.setCell ⟨b, 0, none⟩ u).setCell ⟨b, 1, none⟩ v).setCell ⟨b, 2, none⟩ iv).setCell ⟨b, 3, none⟩ bv).setCell ⟨b, 4, none⟩ dv).setCell ⟨b, 5, none⟩ (.slice none 0 0)).setCell ⟨b, 6, none⟩ (.int .i64 m.nx)).heap[k]? = W.heap[k]? := fun k hk =>
    ((((((heap_setCell_other _ ⟨b, 6, none⟩ k _ hk).trans (heap_setCell_other _ ⟨b, 5, none⟩ k _ hk)).trans (heap_setCell_other _ ⟨b, 4, none⟩ k _ hk)).trans (heap_setCell_other _ ⟨b, 3, none⟩ k _ hk)).trans (heap_setCell_other _ ⟨b, 2, none⟩ k _ hk)).trans (heap_setCell_other _ ⟨b, 1, none⟩ k _ hk)).trans (heap_setCell_other _ ⟨b, 0, none⟩ k _ hk)
  refine ⟨(hoth _ (by omega)).trans hA, (hoth _ (by omega)).trans hR, ((((((hb.set 0 u).set 1 v).set 2 iv).set 3 bv).set 4 dv).set 5 (.slice none 0 0)).set 6 (.int .i64 m.nx), ?_, ((((((bel.setCell (by show w.heap.size ≤ b; omega) _).setCell (by show w.heap.size ≤ b; omega) _).setCell (by show w.heap.size ≤ b; omega) _).setCell (by show w.heap.size ≤ b; omega) _).setCell (by show w.heap.size ≤ b; omega) _).setCell (by show w.heap.size ≤ b; omega) _).setCell (by show w.heap.size ≤ b; omega) _, hbb⟩
  refine ⟨_, fun k => dv.ownBlock = some k, fun _ => False, [], hd.of_heap fun k hk _ => hoth k (by omega), (hf.of_heap fun k hk => hoth k (hsep k hk).2).base_le (Nat.zero_le _), fun k hk => hk, by rw [hds]; exact GN.nil _ _, fun k hk => ⟨fun e => by have := hsep k e; omega, id⟩, fun k hk e => e, fun k hk => ?_⟩
  rcases hk with hk | hk | hk
  · exact ⟨by omega, by omega⟩
  · exact ⟨by have := hf.lt k hk; omega, (hsep k hk).2⟩
  · exact hk.elim
end Go.Proofs.YtggjillpfclajaaGreat.Kit
/- A disk of memory of its own, into which an inode or a block is put. No Go function is spoken of. -/
namespace Go.Proofs.YtggjillpfclajaaGreat.Kit
open Go.RowKit
theorem TOwns.of_at {w : World} {e : TypeId} {g : Nat} {cs : Array Value} {ts : List V3} (h : AtC w g e cs) (hc : cs.toList = f3 ts) (hm : ts.length ≤ maxLen) : TOwns w e (.slice (some ⟨g, 0, none⟩) ts.length ts.length) ts := by
  have hs : cs.size = ts.length * 3 := by rw [← Array.length_toList, hc, f3_length]
  refine ⟨by rw [f3_length], .inr ⟨g, ts.length, cs, rfl, Nat.zero_le _, h, Nat.le_refl _, hm, hs, ?_⟩⟩
  rw [hc, List.take_of_length_le (by rw [f3_length]; exact Nat.le_refl _)]
/-- As many of one kind, in one block, without memory of their own. -/
theorem GO.of_at {α : Type} {K : Kd α} {w : World} {g n : Nat} {cs : Array Value} {z : V3} {x : α} (h : AtC w g K.T cs) (hc : cs.toList = f3 (List.replicate n z)) (hm : n ≤ maxLen) (hO : K.O w z x) (hz : (K.p z).ownBlock = none) :
    GO K w (fun k => k = g) (.slice (some ⟨g, 0, none⟩) n n) (List.replicate n z) (List.replicate n x) := by
  refine ⟨by simp, ?_, fun j hj hj' => ?_, fun i j hi hj _ k e => ?_, fun j hj k e => ?_, fun k e => ?_, fun j hj k e => ?_⟩
  · have := TOwns.of_at (ts := List.replicate n z) h hc (by simpa using hm)
    simpa using this
  · simp only [List.getElem_replicate]
    exact hO
  · simp only [List.getElem_replicate] at e
    rw [hz] at e; cases e
  · simp only [List.getElem_replicate] at e
    rw [hz] at e; cases e
  · simpa [Value.ownBlock] using e.symm
  · simp only [List.getElem_replicate] at e
    rw [hz] at e; cases e
theorem DO.two {w : World} {S : Nat → Prop} {u v iv bv : Value} {xs ys : List Bool} {is : List Ino} {bs : List Blk} (h : DO w S u v iv bv xs ys is bs) : Two w 0 u v xs ys := by
  obtain ⟨S1, S2, S3, ti, tb, h1, -⟩ := h
  exact h1
/-- The cells of an inode's place, and that they may be written. -/
theorem DO.atI {w : World} {S : Nat → Prop} {u v iv bv : Value} {xs ys : List Bool} {is : List Ino} {bs : List Blk} (h : DO w S u v iv bv xs ys is bs) {g n cap : Nat} (hv : iv = .slice (some ⟨g, 0, none⟩) n cap) (j : Nat) (hj : j < is.length) :
    (∃ a b p, w.cell? ⟨g, j * 3, none⟩ = some (.int .i64 a) ∧ w.cell? ⟨g, j * 3 + 1, none⟩ = some (.int .i64 b) ∧ w.cell? ⟨g, j * 3 + 2, none⟩ = some p ∧ a = is[j].1 ∧ b = is[j].2.1 ∧ RInts w p is[j].2.2) ∧ (∀ k, w.frozen? ⟨g, k, none⟩ = false) ∧ g < w.heap.size ∧ n = is.length ∧ S g := by
  obtain ⟨S1, S2, S3, ti, tb, h1, -, hi, -, -, -, hU⟩ := h
  have hl := hi.len
  obtain ⟨g', c', e', k1, k2, k3, k4, k5, -⟩ := hi.row.at j (by omega)
  rw [hv] at e'
  simp only [Value.slice.injEq, Option.some.injEq, Addr.mk.injEq] at e'
  obtain ⟨⟨rfl, -⟩, hn, -⟩ := e'
  obtain ⟨i1, i2, i3⟩ := hi.inn j (by omega) hj
  exact ⟨⟨_, _, _, by rw [k1, i1], by rw [k2, i2], k3, rfl, rfl, i3.rints⟩, k4, k5, by omega, hU _ (.inr (.inl (hi.so _ (by rw [hv]; rfl))))⟩
theorem DO.atB {w : World} {S : Nat → Prop} {u v iv bv : Value} {xs ys : List Bool} {is : List Ino} {bs : List Blk} (h : DO w S u v iv bv xs ys is bs) {g n cap : Nat} (hv : bv = .slice (some ⟨g, 0, none⟩) n cap) (j : Nat) (hj : j < bs.length) :
    (∃ a p t, w.cell? ⟨g, j * 3, none⟩ = some (.bool a) ∧ w.cell? ⟨g, j * 3 + 1, none⟩ = some p ∧ w.cell? ⟨g, j * 3 + 2, none⟩ = some (.string t) ∧ a = bs[j].1 ∧ t = bs[j].2.2 ∧ RSl w p bs[j].2.1) ∧ (∀ k, w.frozen? ⟨g, k, none⟩ = false) ∧ g < w.heap.size ∧ n = bs.length ∧ S g := by
  obtain ⟨S1, S2, S3, ti, tb, h1, -, -, hi, -, -, hU⟩ := h
  have hl := hi.len
  obtain ⟨g', c', e', k1, k2, k3, k4, k5, -⟩ := hi.row.at j (by omega)
  rw [hv] at e'
  simp only [Value.slice.injEq, Option.some.injEq, Addr.mk.injEq] at e'
  obtain ⟨⟨rfl, -⟩, hn, -⟩ := e'
  obtain ⟨i1, i2, i3⟩ := hi.inn j (by omega) hj
  exact ⟨⟨_, _, _, by rw [k1, i1], k2, by rw [k3, i3], rfl, rfl, i2.rsl⟩, k4, k5, by omega, hU _ (.inr (.inr (hi.so _ (by rw [hv]; rfl))))⟩
/-- An inode of new memory is put in its place. -/
theorem DO.putI {w w1 : World} {S : Nat → Prop} {u v iv bv : Value} {xs ys : List Bool} {is : List Ino} {bs : List Blk} (h : DO w S u v iv bv xs ys is bs) {g n cap : Nat} (hv : iv = .slice (some ⟨g, 0, none⟩) n cap) (j : Nat) (hj : j < is.length) (t' : V3) (x' : Ino)
    (hb : Below w.heap.size w w1) (hO : KI.O w1 t' x') (hn : ∀ k, t'.2.2.ownBlock = some k → w.heap.size ≤ k) :
    DO (((w1.setCell ⟨g, j * 3, none⟩ t'.1).setCell ⟨g, j * 3 + 1, none⟩ t'.2.1).setCell ⟨g, j * 3 + 2, none⟩ t'.2.2) (fun k => S k ∨ w.heap.size ≤ k) u v iv bv xs ys (is.set j x') bs := by
  obtain ⟨S1, S2, S3, ti, tb, h1, hs1, hi, hk, d1, d2, hU⟩ := h
  have hg : g < w.heap.size := hi.row.lt g (by rw [hv]; rfl)
  have hg2 : S2 g := hi.so g (by rw [hv]; rfl)
  have hoth : ∀ k, k < w.heap.size → k ≠ g → (((w1.setCell ⟨g, j * 3, none⟩ t'.1).setCell ⟨g, j * 3 + 1, none⟩ t'.2.1).setCell ⟨g, j * 3 + 2, none⟩ t'.2.2).heap[k]? = w.heap[k]? := fun k hk1 hk =>
    (((heap_setCell_other _ ⟨g, j * 3 + 2, none⟩ k _ (by simpa using hk)).trans (heap_setCell_other _ ⟨g, j * 3 + 1, none⟩ k _ (by simpa using hk))).trans (heap_setCell_other _ ⟨g, j * 3, none⟩ k _ (by simpa using hk))).trans (hb.block k hk1)
  have h12 : ∀ m, (u.ownBlock = some m ∨ v.ownBlock = some m) → m < w.heap.size := fun m hm => hm.elim (fun e => (h1.a.lt m e).2) (fun e => (h1.b.lt m e).2)
  have hi2 := hi.bound.put hv j (by rw [hi.len]; exact hj) t' x' hb hO hn (S' := fun k => (S2 k ∧ k < w.heap.size) ∨ w.heap.size ≤ k) (fun k hk => .inl hk) (fun k hk => .inr hk)
  refine ⟨fun k => u.ownBlock = some k ∨ v.ownBlock = some k, _, fun k => S3 k ∧ k < w.heap.size, _, tb, ⟨h1.a.of_heap fun k hk => hoth k (h12 k (.inl hk)) (fun e => (d1 k (hs1 k (.inl hk))).1 (e ▸ hg2)), h1.b.of_heap fun k hk => hoth k (h12 k (.inr hk)) (fun e => (d1 k (hs1 k (.inr hk))).1 (e ▸ hg2)), h1.ne⟩, fun k hk => hk, hi2, hk.bound.of_heap fun k hk hlt => hoth k hlt (fun e => d2 g hg2 (e ▸ hk.1)), fun k hk => ⟨fun e => ?_, fun e => (d1 k (hs1 k hk)).2 e.1⟩, fun k hk e => ?_, fun k hk => ?_⟩
  · rcases e with e | e
    · exact (d1 k (hs1 k hk)).1 e.1
    · have := h12 k hk; omega
  · rcases hk with hk | hk
    · exact d2 k hk.1 e.1
    · have := e.2; omega
  · rcases hk with hk | (hk | hk) | hk
    · exact .inl (hU k (.inl (hs1 k hk)))
    · exact .inl (hU k (.inr (.inl hk.1)))
    · exact .inr hk
    · exact .inl (hU k (.inr (.inr hk.1)))
/-- A block of new memory is put in its place. -/
theorem DO.putB {w w1 : World} {S : Nat → Prop} {u v iv bv : Value} {xs ys : List Bool} {is : List Ino} {bs : List Blk} (h : DO w S u v iv bv xs ys is bs) {g n cap : Nat} (hv : bv = .slice (some ⟨g, 0, none⟩) n cap) (j : Nat) (hj : j < bs.length) (t' : V3) (x' : Blk)
    (hb : Below w.heap.size w w1) (hO : KB.O w1 t' x') (hn : ∀ k, t'.2.1.ownBlock = some k → w.heap.size ≤ k) :
    DO (((w1.setCell ⟨g, j * 3, none⟩ t'.1).setCell ⟨g, j * 3 + 1, none⟩ t'.2.1).setCell ⟨g, j * 3 + 2, none⟩ t'.2.2) (fun k => S k ∨ w.heap.size ≤ k) u v iv bv xs ys is (bs.set j x') := by
  obtain ⟨S1, S2, S3, ti, tb, h1, hs1, hi, hk, d1, d2, hU⟩ := h
  have hg : g < w.heap.size := hk.row.lt g (by rw [hv]; rfl)
  have hg3 : S3 g := hk.so g (by rw [hv]; rfl)
  have hoth : ∀ k, k < w.heap.size → k ≠ g → (((w1.setCell ⟨g, j * 3, none⟩ t'.1).setCell ⟨g, j * 3 + 1, none⟩ t'.2.1).setCell ⟨g, j * 3 + 2, none⟩ t'.2.2).heap[k]? = w.heap[k]? := fun k hk1 hk =>
    (((heap_setCell_other _ ⟨g, j * 3 + 2, none⟩ k _ (by simpa using hk)).trans (heap_setCell_other _ ⟨g, j * 3 + 1, none⟩ k _ (by simpa using hk))).trans (heap_setCell_other _ ⟨g, j * 3, none⟩ k _ (by simpa using hk))).trans (hb.block k hk1)
  have h12 : ∀ m, (u.ownBlock = some m ∨ v.ownBlock = some m) → m < w.heap.size := fun m hm => hm.elim (fun e => (h1.a.lt m e).2) (fun e => (h1.b.lt m e).2)
  have hk2 := hk.bound.put hv j (by rw [hk.len]; exact hj) t' x' hb hO hn (S' := fun k => (S3 k ∧ k < w.heap.size) ∨ w.heap.size ≤ k) (fun k hk => .inl hk) (fun k hk => .inr hk)
  refine ⟨fun k => u.ownBlock = some k ∨ v.ownBlock = some k, fun k => S2 k ∧ k < w.heap.size, _, ti, _, ⟨h1.a.of_heap fun k hk => hoth k (h12 k (.inl hk)) (fun e => (d1 k (hs1 k (.inl hk))).2 (e ▸ hg3)), h1.b.of_heap fun k hk => hoth k (h12 k (.inr hk)) (fun e => (d1 k (hs1 k (.inr hk))).2 (e ▸ hg3)), h1.ne⟩, fun k hk => hk, hi.bound.of_heap fun k hk hlt => hoth k hlt (fun e => d2 k hk.1 (e.symm ▸ hg3)), hk2, fun k hk => ⟨fun e => (d1 k (hs1 k hk)).1 e.1, fun e => ?_⟩, fun k hk e => ?_, fun k hk => ?_⟩
  · rcases e with e | e
    · exact (d1 k (hs1 k hk)).2 e.1
    · have := h12 k hk; omega
  · rcases e with e | e
    · exact d2 k hk.1 e.1
    · have := hk.2; omega
  · rcases hk with hk | hk | (hk | hk)
    · exact .inl (hU k (.inl (hs1 k hk)))
    · exact .inl (hU k (.inr (.inl hk.1)))
    · exact .inl (hU k (.inr (.inr hk.1)))
    · exact .inr hk
end Go.Proofs.YtggjillpfclajaaGreat.Kit
/- 'xs = append(xs, x)' of inodes or blocks: the step's law, and what it makes of a list and of a disk of memory of their own. No Go function is spoken of. -/
namespace Go.Proofs.YtggjillpfclajaaGreat.Kit
open Go.RowKit
theorem step_append_three {P : Program} (W : World) {ops : Array Oper} {o : Oper} {a : Act} {K : Act → World → Prop} {Q : Exit → Act → World → Prop} {E : Prop} (hgd : o.guard = none) (s x : Operand) (t : TypeId)
    (ho : o.op = .call { callee := .builtin .append, args := #[s, x], argTypes := #[t, t] }) (e : TypeId) (ht : P.underlying t = some (.slice e)) (z : Value) (bytes : Nat)
    (hi : (P.info? e).map (fun i => (i.zero, i.size, i.bytes)) = some (some z, 3, bytes)) (hzc : z.cells.size = 3) (hby : bytes ≤ 64) (v : Value) (ts : List V3) (hs : a.eval s = v) (hown : TOwns W e v ts)
    (g : Nat) (y : V3) (hx : a.eval x = .slice (some ⟨g, 0, none⟩) 1 1) (hc : W.cell? ⟨g, 0, none⟩ = some y.1 ∧ W.cell? ⟨g, 1, none⟩ = some y.2.1 ∧ W.cell? ⟨g, 2, none⟩ = some y.2.2) (h1 : y.1.oneCell' = true ∧ y.2.1.oneCell' = true ∧ y.2.2.oneCell' = true) (hl : ts.length ≤ 1000000000000)
    (h : ∀ v' w', TOwns w' e v' (ts ++ [y]) → W.grownBy w' v.ownBlock → (∀ k, v'.ownBlock = some k → v.ownBlock = some k ∨ W.heap.size ≤ k) → K (a.put o.dst v') w') :
    if Region.wanted o (yielded ops a.tmps) = true then Oper.wp P o a W K Q else E := by
  obtain ⟨i0, hi, hz0, hz1, hz2⟩ := info_parts hi
  have hown2 : W.ownsRow 0 e 3 v ts.length (f3 ts) := hown
  refine step_append_lies _ hgd s x t ho 0 e i0 z 3 bytes ht hi hz0 hz1 hz2 hzc (by decide) v ts.length (f3 ts) hs hown2 ⟨g, 0, none⟩ 1 1 (f3 [y]) hx rfl ?_ ?_ (by decide) ?_ ?_ (Nat.zero_le _) W.heap.size rfl ?_
  · intro j u hj
    match j, hj with
    | 0, hj => simp [f3] at hj; subst hj; simpa [Addr.add] using hc.1
    | 1, hj => simp [f3] at hj; subst hj; simpa [Addr.add] using hc.2.1
    | 2, hj => simp [f3] at hj; subst hj; simpa [Addr.add] using hc.2.2
    | j + 3, hj => simp [f3] at hj
  · intro u hu
    simp only [f3, List.mem_cons, List.not_mem_nil, or_false] at hu
    rcases hu with rfl | rfl | rfl
    · exact h1.1
    · exact h1.2.1
    · exact h1.2.2
  · unfold maxLen; omega
  · have : (ts.length + 1) * bytes ≤ 1000000000001 * 64 := Nat.mul_le_mul (by omega) hby
    omega
  · intro g' cap w' hown' hgrow hat _
    refine h _ w' ?_ hgrow fun k hk => ?_
    · unfold TOwns
      rw [List.length_append, f3_append]
      exact hown'
    · simp only [Value.ownBlock, Option.some.injEq] at hk
      subst hk
      rcases hat with hat | hat
      · exact .inl hat
      · exact .inr (by omega)
theorem GO.append {α : Type} {K : Kd α} {w w1 w2 : World} {S : Nat → Prop} {v v' : Value} {ts : List V3} {xs : List α} {t' : V3} {x' : α} (h : GO K w S v ts xs) (hb : Below w.heap.size w w1) (hO : K.O w1 t' x') (hn : ∀ k, (K.p t').ownBlock = some k → w.heap.size ≤ k)
    (hr : TOwns w2 K.T v' (ts ++ [t'])) (hg : w1.grownBy w2 v.ownBlock) (hv : ∀ k, v'.ownBlock = some k → v.ownBlock = some k ∨ w1.heap.size ≤ k) : GO K w2 (fun k => (S k ∧ k < w.heap.size) ∨ w.heap.size ≤ k) v' (ts ++ [t']) (xs ++ [x']) := by
  have hl := h.len
  have hsz := hb.size
  have hlt : ∀ (i : Nat) (hi : i < ts.length) (k : Nat), (K.p ts[i]).ownBlock = some k → k < w.heap.size := fun i hi k hk => K.lt (h.inn i hi (by omega)) k hk
  have hlt' : ∀ k, (K.p t').ownBlock = some k → k < w1.heap.size := fun k hk => K.lt hO k hk
  have hvl : ∀ k, v.ownBlock = some k → k < w.heap.size := h.row.lt
  have at_l : ∀ (i : Nat) (hi : i < (ts ++ [t']).length), (∃ h' : i < ts.length, (ts ++ [t'])[i] = ts[i]) ∨ (i = ts.length ∧ (ts ++ [t'])[i] = t') := fun i hi => by
    by_cases e : i < ts.length
    · exact .inl ⟨e, List.getElem_append_left e⟩
    · have e2 : i = ts.length := by simp at hi; omega
      refine .inr ⟨e2, ?_⟩
      subst e2
      simp
  refine ⟨by simp [hl], hr, fun i hi hi' => ?_, fun i j hi hj hne k e1 e2 => ?_, fun i hi k e1 e2 => ?_, fun k e => ?_, fun i hi k e => ?_⟩
  · rcases at_l i hi with ⟨h', e⟩ | ⟨rfl, e⟩
    · rw [e, List.getElem_append_left (by omega)]
      exact K.heap (h.inn i h' (by omega)) fun k hk => (hg.block k (by have := hlt i h' k hk; omega) (fun e => h.out i h' k hk e.symm)).trans (hb.block k (hlt i h' k hk))
    · have e2 : (xs ++ [x'])[ts.length] = x' := by simp [hl]
      rw [e, e2]
      exact K.heap hO fun k hk => hg.block k (hlt' k hk) (fun e => by have := hvl k e.symm; have := hn k hk; omega)
  · rcases at_l i hi with ⟨h1, q1⟩ | ⟨q0, q1⟩ <;> rcases at_l j hj with ⟨h2, q2⟩ | ⟨q3, q2⟩ <;> rw [q1] at e1 <;> rw [q2] at e2
    · exact h.sep i j h1 h2 hne k e1 e2
    · have := hlt i h1 k e1; have := hn k e2; omega
    · have := hlt j h2 k e2; have := hn k e1; omega
    · omega
  · rcases at_l i hi with ⟨h1, q1⟩ | ⟨q0, q1⟩ <;> rw [q1] at e1
    · rcases hv k e2 with q | q
      · exact h.out i h1 k e1 q
      · have := hlt i h1 k e1; omega
    · rcases hv k e2 with q | q
      · have := hvl k q; have := hn k e1; omega
      · have := hlt' k e1; omega
  · rcases hv k e with q | q
    · exact .inl ⟨h.so k q, hvl k q⟩
    · exact .inr (by omega)
  · rcases at_l i hi with ⟨h1, q1⟩ | ⟨q0, q1⟩ <;> rw [q1] at e
    · exact .inl ⟨h.si i h1 k e, hlt i h1 k e⟩
    · exact .inr (hn k e)
/-- An inode of new memory is appended. -/
theorem DO.appI {w : World} {S : Nat → Prop} {u v iv bv : Value} {xs ys : List Bool} {is : List Ino} {bs : List Blk} (h : DO w S u v iv bv xs ys is bs) :
    ∃ ti, TOwns w 111 iv ti ∧ ti.length = is.length ∧ ∀ (w1 w2 : World) (iv' : Value) (t' : V3) (x' : Ino), Below w.heap.size w w1 → KI.O w1 t' x' → (∀ k, t'.2.2.ownBlock = some k → w.heap.size ≤ k) →
      TOwns w2 111 iv' (ti ++ [t']) → w1.grownBy w2 iv.ownBlock → (∀ k, iv'.ownBlock = some k → iv.ownBlock = some k ∨ w1.heap.size ≤ k) → DO w2 (fun k => S k ∨ w.heap.size ≤ k) u v iv' bv xs ys (is ++ [x']) bs := by
  obtain ⟨S1, S2, S3, ti, tb, h1, hs1, hi, hk, d1, d2, hU⟩ := h
  refine ⟨ti, hi.row, hi.len, fun w1 w2 iv' t' x' hb hO hn hr hg hv => ?_⟩
  have hsz := hb.size
  have h12 : ∀ m, (u.ownBlock = some m ∨ v.ownBlock = some m) → m < w.heap.size := fun m hm => hm.elim (fun e => (h1.a.lt m e).2) (fun e => (h1.b.lt m e).2)
  have hoth : ∀ k, k < w.heap.size → iv.ownBlock ≠ some k → w2.heap[k]? = w.heap[k]? := fun k hk hne => (hg.block k (by omega) (fun e => hne e.symm)).trans (hb.block k hk)
  refine ⟨fun k => u.ownBlock = some k ∨ v.ownBlock = some k, _, fun k => S3 k ∧ k < w.heap.size, _, tb, ⟨h1.a.of_heap fun k hk => hoth k (h12 k (.inl hk)) (fun e => (d1 k (hs1 k (.inl hk))).1 (hi.so k e)), h1.b.of_heap fun k hk => hoth k (h12 k (.inr hk)) (fun e => (d1 k (hs1 k (.inr hk))).1 (hi.so k e)), h1.ne⟩, fun k hk => hk, hi.append hb hO hn hr hg hv, hk.bound.of_heap fun k hk hlt => hoth k hlt (fun e => d2 k (hi.so k e) hk.1), fun k hk => ⟨fun e => ?_, fun e => (d1 k (hs1 k hk)).2 e.1⟩, fun k hk e => ?_, fun k hk => ?_⟩
  · rcases e with e | e
    · exact (d1 k (hs1 k hk)).1 e.1
    · have := h12 k hk; omega
  · rcases hk with hk | hk
    · exact d2 k hk.1 e.1
    · have := e.2; omega
  · rcases hk with hk | (hk | hk) | hk
    · exact .inl (hU k (.inl (hs1 k hk)))
    · exact .inl (hU k (.inr (.inl hk.1)))
    · exact .inr hk
    · exact .inl (hU k (.inr (.inr hk.1)))
/-- Blocks of new memory come in the place of none. -/
theorem DO.setB {w w1 : World} {S S' : Nat → Prop} {u v iv bv bv' : Value} {xs ys : List Bool} {is : List Ino} {bs bs' : List Blk} (h : DO w S u v iv bv xs ys is bs) (hb : Below w.heap.size w w1) {tb' : List V3} (hk' : GO KB w1 S' bv' tb' bs') (hs' : ∀ k, S' k → w.heap.size ≤ k) :
    DO w1 (fun k => S k ∨ w.heap.size ≤ k) u v iv bv' xs ys is bs' := by
  obtain ⟨S1, S2, S3, ti, tb, h1, hs1, hi, hk, d1, d2, hU⟩ := h
  have h12 : ∀ m, (u.ownBlock = some m ∨ v.ownBlock = some m) → m < w.heap.size := fun m hm => hm.elim (fun e => (h1.a.lt m e).2) (fun e => (h1.b.lt m e).2)
  refine ⟨fun k => u.ownBlock = some k ∨ v.ownBlock = some k, fun k => S2 k ∧ k < w.heap.size, S', ti, tb', h1.below hb (Nat.le_refl _), fun k hk => hk, hi.bound.below hb (Nat.le_refl _), hk', fun k hk => ⟨fun e => (d1 k (hs1 k hk)).1 e.1, fun e => ?_⟩, fun k hk e => ?_, fun k hk => ?_⟩
  · have := h12 k hk; have := hs' k e; omega
  · have := hk.2; have := hs' k e; omega
  · rcases hk with hk | hk | hk
    · exact .inl (hU k (.inl (hs1 k hk)))
    · exact .inl (hU k (.inr (.inl hk.1)))
    · exact .inr (hs' k hk)
end Go.Proofs.YtggjillpfclajaaGreat.Kit
