
/- Copies of an inode, of a block: spec.l03Copy, spec.l04Copy, impl.newBlock by their contracts. -/
import Derived.Test.YtggjillpfclajaaGreatCp
namespace Go.Proofs.YtggjillpfclajaaGreat.Kit
open Go.RowKit
theorem lit0_at (w : World) (A B : Obj) (e : TypeId) (m : Nat) : (((w.alloc A).alloc B).alloc (.cells #[] e)).ownsRow (w.heap.size + 1 + 1) e m (.slice (some ⟨w.heap.size + 1 + 1, 0, none⟩) 0 0) 0 [] := by
  have := World.ownsRow_lit (base := w.heap.size + 1 + 1) (e := e) (size := m) ((w.alloc A).alloc B) #[] 0 (by simp) (Nat.zero_le _) (by simp)
  simpa using this
theorem alloc3_below (w : World) (A B C : Obj) : Below w.heap.size w (((w.alloc A).alloc B).alloc C) := (((Below.refl _ w).alloc (Nat.le_refl _) _).alloc (by simp) _).alloc (by simp; omega) _
theorem AtC.two3 (w : World) (T1 T2 : TypeId) (cs ds : Array Value) (C : Obj) : AtC (((w.alloc (.cells cs T1)).alloc (.cells ds T2)).alloc C) w.heap.size T1 cs ∧ AtC (((w.alloc (.cells cs T1)).alloc (.cells ds T2)).alloc C) (w.heap.size + 1) T2 ds := by
  refine ⟨((AtC.new w T1 cs).alloc _).alloc _, ?_⟩
  have := (AtC.new (w.alloc (.cells cs T1)) T2 ds).alloc C
  simpa using this
theorem cp_after {w w1 : World} {T e : TypeId} {m n : Nat} {cs Z : Array Value} {ds : List Value} {v' : Value} (R1 : w1.ownsRow (w.heap.size + 1 + 1) e m v' n ds)
    (R2 : (((w.alloc (.cells cs T)).alloc (.cells Z T)).alloc (.cells #[] e)).grownBy w1 (Value.slice (some ⟨w.heap.size + 1 + 1, 0, none⟩) 0 0).ownBlock) :
    ∃ a1 c1, v' = .slice a1 n c1 ∧ Below w.heap.size w w1 ∧ AtC w1 w.heap.size T cs ∧ AtC w1 (w.heap.size + 1) T Z := by
  obtain ⟨k0, k1⟩ := AtC.two3 w T T cs Z (.cells #[] e)
  obtain ⟨a1, c1, e1⟩ : ∃ a1 c1, v' = .slice a1 n c1 := by
    rcases R1.2 with ⟨h1, h0⟩ | ⟨g, cap, cur, h1, -⟩
    · exact ⟨none, 0, by rw [h1, h0]⟩
    · exact ⟨_, _, h1⟩
  exact ⟨a1, c1, e1, below_of_append (alloc3_below w _ _ _) (by simp; omega) R2 (fun k hk => by simp [Value.ownBlock] at hk; omega), k0.grown R2 (by simp [Value.ownBlock]; omega), k1.grown R2 (by simp [Value.ownBlock])⟩
end Go.Proofs.YtggjillpfclajaaGreat.Kit
namespace Go.Proofs.YtggjillpfclajaaGreat
open Go.RowKit Kit
set_option maxRecDepth 100000 in
set_option maxHeartbeats 800000 in
theorem copyI_any (k l : Int) (v : Value) (xs : List Int) (w : World) (hv : RInts w v xs) (hl : xs.length ≤ 1048576) :
    Calls Tryz.prog 79 #[.agg #[.int .i64 k, .int .i64 l, v]] w fun e w' => ∃ u, e = .returned (.agg #[.int .i64 k, .int .i64 l, u]) ∧ ROwns w' w.heap.size 3 u (ic xs) ∧ Below w.heap.size w w' := by
  have HV := hide hv
  obtain ⟨a, c, rfl, -⟩ := hv
  have HL : Hid (xs.length ≤ 100000000000) := Nat.le_trans hl (by decide)
  clear hl
  go_enter Tryz.func79, Tryz.ntmps79
  go_wp2_with (at_builtin; refine wpList_append_copy _ rfl _ _ 47 rfl (w.heap.size + 1 + 1) 3 Tryz.underlying47 _ 1 8 Tryz.i3 rfl (by decide) (by decide) (.slice (some ⟨w.heap.size + 1 + 1, 0, none⟩) 0 0) rfl (lit0_at w _ _ 3 1) (by simp) _ rfl xs.length (ic xs) (((HV.out.alloc _).alloc _).alloc _).rc (by rw [ic_length, Nat.mul_one]) (ic_one xs) HL.out ?_; intro v' w1 R1 R2 R3; obtain ⟨a1, c1, rfl, B1, K0, K1⟩ := cp_after R1 R2; have p0 : w1.cell? ⟨w.heap.size, 0, none⟩ = some (.int .i64 k) := K0.cell 0; have p1 : w1.cell? ⟨w.heap.size, 1, none⟩ = some (.int .i64 l) := K0.cell 1; have p2 : w1.cell? ⟨w.heap.size, 2, none⟩ = some (.slice a xs.length c) := K0.cell 2; have y2 := K0.frozen 2; have q0 : w1.cell? ⟨w.heap.size + 1, 0, none⟩ = some (.int .i64 0) := K1.cell 0; have q1 : w1.cell? ⟨w.heap.size + 1, 1, none⟩ = some (.int .i64 0) := K1.cell 1; have q2 : w1.cell? ⟨w.heap.size + 1, 2, none⟩ = some (.slice none 0 0) := K1.cell 2; have z0 := K1.frozen 0; have z1 := K1.frozen 1; have z2 := K1.frozen 2; have HR := hide R1; have HB := hide B1; clear R1 R2 R3 K0 K1 B1)
  have HO : Hid (ROwns w1 (w.heap.size + 1 + 1) 3 (.slice a1 xs.length c1) (ic xs)) := by show ROwns _ _ _ _ _; unfold ROwns; rw [ic_length]; exact HR.out
  refine bodyPost_ret (v := .agg #[.int .i64 k, .int .i64 l, .slice a1 xs.length c1]) (by simp [results, go_sem, q0, q1, q2]) rfl ⟨_, rfl, ?_, ?_⟩
  · exact ((((((HO.out.setCell_other (by omega) _).setCell_other (by omega) _).setCell_other (by omega) _).setCell_other (by omega) _)).base_le (by omega))
  · exact ((((HB.out.setCell (by simp) _).setCell (by simp) _).setCell (by simp) _).setCell (by simp) _)
set_option maxRecDepth 100000 in
set_option maxHeartbeats 800000 in
theorem copyK_any (d : Bool) (t : ByteArray) (v : Value) (xs : List Sl) (w : World) (hv : RSl w v xs) (hl : xs.length ≤ 1048576) :
    Calls Tryz.prog 80 #[.agg #[.bool d, v, .string t]] w fun e w' => ∃ u, e = .returned (.agg #[.bool d, u, .string t]) ∧ SOwns w' w.heap.size 132 u xs ∧ Below w.heap.size w w' := by
  have HV := hide hv
  obtain ⟨a, c, rfl, -⟩ := hv
  have HL : Hid (xs.length ≤ 100000000000) := Nat.le_trans hl (by decide)
  clear hl
  go_enter Tryz.func80, Tryz.ntmps80
  go_wp2_with (at_builtin; refine wpList_append_copy _ rfl _ _ 113 rfl (w.heap.size + 1 + 1) 132 Tryz.underlying113 _ 2 24 Tryz.i132 rfl (by decide) (by decide) (.slice (some ⟨w.heap.size + 1 + 1, 0, none⟩) 0 0) rfl (lit0_at w _ _ 132 2) (by simp) _ rfl xs.length (sc xs) (((HV.out.alloc _).alloc _).alloc _).rc (sc_length xs) (sc_one xs) HL.out ?_; intro v' w1 R1 R2 R3; obtain ⟨a1, c1, rfl, B1, K0, K1⟩ := cp_after R1 R2; have p0 : w1.cell? ⟨w.heap.size, 0, none⟩ = some (.bool d) := K0.cell 0; have p1 : w1.cell? ⟨w.heap.size, 1, none⟩ = some (.slice a xs.length c) := K0.cell 1; have p2 : w1.cell? ⟨w.heap.size, 2, none⟩ = some (.string t) := K0.cell 2; have y2 := K0.frozen 1; have q0 : w1.cell? ⟨w.heap.size + 1, 0, none⟩ = some (.bool false) := K1.cell 0; have q1 : w1.cell? ⟨w.heap.size + 1, 1, none⟩ = some (.slice none 0 0) := K1.cell 1; have q2 : w1.cell? ⟨w.heap.size + 1, 2, none⟩ = some (.string ⟨#[]⟩) := K1.cell 2; have z0 := K1.frozen 0; have z1 := K1.frozen 1; have z2 := K1.frozen 2; have HR := hide R1; have HB := hide B1; clear R1 R2 R3 K0 K1 B1)
  have HO : Hid (SOwns w1 (w.heap.size + 1 + 1) 132 (.slice a1 xs.length c1) xs) := HR.out
  refine bodyPost_ret (v := .agg #[.bool d, .slice a1 xs.length c1, .string t]) (by simp [results, go_sem, q0, q1, q2]) rfl ⟨_, rfl, ?_, ?_⟩
  · exact ((((((HO.out.setCell_low (by omega) _).setCell_low (by omega) _).setCell_low (by omega) _).setCell_low (by omega) _)).base_le (by omega))
  · exact ((((HB.out.setCell (by simp) _).setCell (by simp) _).setCell (by simp) _).setCell (by simp) _)
/-- A block while its names are cloned: its box, the result's block, its slots. -/
structure Nb (w w' : World) (d : Bool) (t : ByteArray) (u : Value) (xs : List Sl) : Prop where
  box : AtC w' w.heap.size 115 #[.bool d, u, .string t]
  res : AtC w' (w.heap.size + 1) 115 #[.bool false, .slice none 0 0, .string ⟨#[]⟩]
  own : SOwns w' (w.heap.size + 1 + 1) 132 u xs
  bel : Below w.heap.size w w'
theorem Nb.below {w w' w1 : World} {d : Bool} {t : ByteArray} {u : Value} {xs : List Sl} (h : Nb w w' d t u xs) (hb : Below w'.heap.size w' w1) : Nb w w1 d t u xs := ⟨h.box.over hb, h.res.over hb, h.own.below hb (Nat.le_refl _), h.bel.trans (hb.mono h.bel.size)⟩
theorem Nb.set {w w' : World} {d : Bool} {t : ByteArray} {g c : Nat} {xs : List Sl} (h : Nb w w' d t (.slice (some ⟨g, 0, none⟩) xs.length c) xs) (j : Nat) (hj : j < xs.length) : Nb w (w'.setCell ⟨g, j * 2, none⟩ (.string xs[j].1)) d t (.slice (some ⟨g, 0, none⟩) xs.length c) xs := by
  have hg := (h.own.lt g rfl).1
  have h2 := (h.own.set_name j hj xs[j].1).1
  have e : xs.set j (xs[j].1, xs[j].2) = xs := by rw [show (xs[j].1, xs[j].2) = xs[j] from rfl, List.set_getElem_self]
  rw [e] at h2
  exact ⟨h.box.other (by omega) _, h.res.other (by omega) _, h2, h.bel.setCell (by show w.heap.size ≤ g; omega) _⟩
set_option maxRecDepth 100000 in
set_option maxHeartbeats 1600000 in
theorem newK_any (d : Bool) (t : ByteArray) (v : Value) (xs : List Sl) (w : World) (hv : RSl w v xs) (hB : bigB 1048576 (d, xs, t)) :
    Calls Tryz.prog 89 #[.agg #[.bool d, v, .string t]] w fun e w' => ∃ u, e = .returned (.agg #[.bool d, u, .string t]) ∧ SOwns w' w.heap.size 132 u xs ∧ Below w.heap.size w w' := by
  have HV := hide hv
  have HB := hide hB
  obtain ⟨a, c, rfl, -⟩ := hv
  have hxl : xs.length ≤ 1048576 := hB.1
  clear hB
  go_enter Tryz.func89, Tryz.ntmps89
  go_wp2_with fail
  refine (clone_any t _ (Nat.le_trans HB.out.2.2 (by decide))).mono ?_
  rintro e w1 ⟨rfl, B1⟩
  obtain ⟨k0, k1⟩ := AtC.two3 w 115 115 #[.bool d, .slice a xs.length c, .string t] #[.bool false, .slice none 0 0, .string ⟨#[]⟩] (.cells #[] 132)
  have K0 : AtC w1 w.heap.size 115 #[.bool d, .slice a xs.length c, .string t] := ((AtC.new w 115 _).alloc _).over B1
  have K1 : AtC w1 (w.heap.size + 1) 115 #[.bool false, .slice none 0 0, .string ⟨#[]⟩] := by
    have := (AtC.new (w.alloc (.cells #[.bool d, .slice a xs.length c, .string t] 115)) 115 #[.bool false, .slice none 0 0, .string ⟨#[]⟩]).over B1
    simpa using this
  have BW : Below w.heap.size w w1 := (((Below.refl _ w).alloc (Nat.le_refl _) _).alloc (by simp) _).trans (B1.mono (by simp; omega))
  have p1 : w1.cell? ⟨w.heap.size, 1, none⟩ = some (.slice a xs.length c) := K0.cell 1
  have p2 : w1.cell? ⟨w.heap.size, 2, none⟩ = some (.string t) := K0.cell 2
  have y2 := K0.frozen 2
  have KS := K0.set 2 (.string t)
  have HK : Hid (AtC (w1.setCell ⟨w.heap.size, 2, none⟩ (.string t)) w.heap.size 115 #[.bool d, .slice a xs.length c, .string t] ∧ AtC (w1.setCell ⟨w.heap.size, 2, none⟩ (.string t)) (w.heap.size + 1) 115 #[.bool false, .slice none 0 0, .string ⟨#[]⟩] ∧ Below w.heap.size w (w1.setCell ⟨w.heap.size, 2, none⟩ (.string t))) := ⟨K0.set 2 (.string t), K1.other (by omega) _, BW.setCell (by simp) _⟩
  have hsz : w.heap.size + 1 + 1 ≤ w1.heap.size := by have := B1.size; simpa using this
  have x1 := HK.out.1
  obtain ⟨W1, hW1⟩ : ∃ W1, w1.setCell ⟨w.heap.size, 2, none⟩ (.string t) = W1 := ⟨_, rfl⟩
  have hsz1 : W1.heap.size = w1.heap.size := by rw [← hW1]; simp
  rw [hW1] at HK x1
  have r1 : W1.cell? ⟨w.heap.size, 1, none⟩ = some (.slice a xs.length c) := x1.cell 1
  clear B1 K0 K1 BW KS k0 k1 x1
  go_wp2_with fail
  refine (newS_any _ xs _ (HV.out.below HK.out.2.2 (Nat.le_refl _)) HB.out.1).mono ?_
  rintro e w2 ⟨u, rfl, O2, B2⟩
  obtain ⟨a2, c2, rfl⟩ := O2.rsl.form
  have ND : Nb w (w2.setCell ⟨w.heap.size, 1, none⟩ (.slice a2 xs.length c2)) d t (.slice a2 xs.length c2) xs := by
    have O3 : SOwns w2 (w.heap.size + 1 + 1) 132 (.slice a2 xs.length c2) xs := O2.base_le (by omega)
    exact ⟨(HK.out.1.over B2).set 1 _, (HK.out.2.1.over B2).other (by omega) _, O3.setCell_low (by omega) _, (HK.out.2.2.trans (B2.mono HK.out.2.2.size)).setCell (by simp) _⟩
  have x2 := HK.out.1.over B2
  have s1 : w2.cell? ⟨w.heap.size, 1, none⟩ = some (.slice a xs.length c) := x2.cell 1
  have f1 := x2.frozen 1
  obtain ⟨W2, hW2⟩ : ∃ W2, w2.setCell ⟨w.heap.size, 1, none⟩ (.slice a2 xs.length c2) = W2 := ⟨_, rfl⟩
  rw [hW2] at ND
  have HN := hide ND
  have t1 : W2.cell? ⟨w.heap.size, 1, none⟩ = some (.slice a2 xs.length c2) := ND.box.cell 1
  clear x2 O2 B2 ND HK r1 p1 p2 y2 hW1 hsz1 hsz
  go_wp2
  go_loopw [16] (fun i wr => ∃ j : Nat, j ≤ xs.length ∧ i = .int .i64 j ∧ Hid (Nb w wr d t (.slice a2 xs.length c2) xs)) (fun i _ => xs.length - (intOf i).toNat)
  case atStart => exact ⟨0, Nat.zero_le _, rfl, HN.out⟩
  case round =>
    obtain ⟨j, hj, rfl, HR⟩ := hrel
    by_cases hlt : j < xs.length
    · obtain ⟨g, c3, e3, m1, m2, m3, m4, m5, -⟩ := HR.out.own.at j hlt
      simp only [Value.slice.injEq] at e3
      obtain ⟨rfl, -, rfl⟩ := e3
      have HZ : Hid (∀ w6, Below (wr.alloc (.cells #[.string xs[j].1, .int .i64 xs[j].2] 132)).heap.size (wr.alloc (.cells #[.string xs[j].1, .int .i64 xs[j].2] 132)) w6 → Nb w w6 d t (.slice (some ⟨g, 0, none⟩) xs.length c2) xs ∧ Nb w (w6.setCell ⟨g, j * 2, none⟩ (.string xs[j].1)) d t (.slice (some ⟨g, 0, none⟩) xs.length c2) xs ∧ AtC w6 wr.heap.size 132 #[.string xs[j].1, .int .i64 xs[j].2] ∧ AtC (w6.setCell ⟨g, j * 2, none⟩ (.string xs[j].1)) wr.heap.size 132 #[.string xs[j].1, .int .i64 xs[j].2]) := fun w6 b6 =>
        have n6 := (HR.out.below ((Below.refl _ wr).alloc (Nat.le_refl _) _)).below b6
        have a6 := (AtC.new wr 132 #[.string xs[j].1, .int .i64 xs[j].2]).over b6
        ⟨n6, n6.set j hlt, a6, a6.other (by omega) _⟩
      have HSZ : Hid (xs[j].1.size ≤ 281474976710656) := Nat.le_trans (HB.out.2.1 j hlt) (by decide)
      obtain ⟨nm, hnm⟩ : ∃ nm, xs[j].1 = nm := ⟨_, rfl⟩
      obtain ⟨z, hz⟩ : ∃ z, xs[j].2 = z := ⟨_, rfl⟩
      rw [hnm] at m1 HZ HSZ
      rw [hz] at m2 HZ
      have HS : Hid (∀ w6, Below (wr.alloc (.cells #[.string nm, .int .i64 z] 132)).heap.size (wr.alloc (.cells #[.string nm, .int .i64 z] 132)) w6 → (w6.cell? ⟨w.heap.size, 1, none⟩ = some (.slice (some ⟨g, 0, none⟩) xs.length c2) ∧ w6.cell? ⟨wr.heap.size, 0, none⟩ = some (.string nm)) ∧ ((w6.setCell ⟨g, j * 2, none⟩ (.string nm)).cell? ⟨w.heap.size, 1, none⟩ = some (.slice (some ⟨g, 0, none⟩) xs.length c2) ∧ (w6.setCell ⟨g, j * 2, none⟩ (.string nm)).cell? ⟨wr.heap.size, 0, none⟩ = some (.string nm)) ∧ w6.cell? ⟨g, j * 2, none⟩ = some (.string nm) ∧ w6.frozen? ⟨g, j * 2, none⟩ = false) := fun w6 b6 => by
        obtain ⟨h1, h2, h3, h4⟩ := HZ.out w6 b6
        obtain ⟨g', c', e', n1, n2, n3, -⟩ := h1.own.at j hlt
        simp only [Value.slice.injEq, Option.some.injEq, Addr.mk.injEq] at e'
        obtain ⟨⟨rfl, -, -⟩, -, -⟩ := e'
        rw [hnm] at n1
        exact ⟨⟨h1.box.cell 1, h3.cell 0⟩, ⟨h2.box.cell 1, h4.cell 0⟩, n1, n3 _⟩
      have b1 : wr.cell? ⟨w.heap.size, 1, none⟩ = some (.slice (some ⟨g, 0, none⟩) xs.length c2) := HR.out.box.cell 1
      have j0 : (0 : Int) ≤ (j : Int) := by omega
      have j1 : (j : Int) < (xs.length : Int) := by omega
      have hbx := HR.out.box.lt
      clear hnm hz m3 HR HV HB t1
      go_wp2_with fail
      go_region_held3 (fun w' => w'.cell? ⟨w.heap.size, 1, none⟩ = some (.slice (some ⟨g, 0, none⟩) xs.length c2) ∧ w'.cell? ⟨wr.heap.size, 0, none⟩ = some (.string nm)) (first | exact (HS.out _ (Below.refl _ _).drew).1 | exact (HS.out _ (of_drew B6)).1 | exact (HS.out _ (of_drew B6)).2.1) ((go_at_call 87; refine (clone_any nm _ HSZ.out).mono ?_; rintro e w6 ⟨rfl, B6⟩; obtain ⟨-, -, n1, n2⟩ := HS.out _ (of_drew B6)))
      have HN6 := hide (HZ.out _ (of_drew B6)).2.1
      clear B6 n1 n2
      go_wp2
      go_roundw
      case rel => exact ⟨j + 1, by omega, by go_num, HN6.out⟩
      case measure => simp [intOf]; omega
    · have q0 : wr.cell? ⟨w.heap.size, 0, none⟩ = some (.bool d) := HR.out.box.cell 0
      have q1 : wr.cell? ⟨w.heap.size, 1, none⟩ = some (.slice a2 xs.length c2) := HR.out.box.cell 1
      have q2 : wr.cell? ⟨w.heap.size, 2, none⟩ = some (.string t) := HR.out.box.cell 2
      have r0 : wr.cell? ⟨w.heap.size + 1, 0, none⟩ = some (.bool false) := HR.out.res.cell 0
      have r1 : wr.cell? ⟨w.heap.size + 1, 1, none⟩ = some (.slice none 0 0) := HR.out.res.cell 1
      have r2 : wr.cell? ⟨w.heap.size + 1, 2, none⟩ = some (.string ⟨#[]⟩) := HR.out.res.cell 2
      have z0 := HR.out.res.frozen 0
      have z1 := HR.out.res.frozen 1
      have z2 := HR.out.res.frozen 2
      clear t1
      go_wp2
      refine bodyPost_ret (v := .agg #[.bool d, .slice a2 xs.length c2, .string t]) (by simp [results, go_sem, r0, r1, r2]) rfl ⟨_, rfl, ?_, ?_⟩
      · exact (((HR.out.own.setCell_low (by omega) _).setCell_low (by omega) _).setCell_low (by omega) _).base_le (by omega)
      · exact ((HR.out.bel.setCell (by simp) _).setCell (by simp) _).setCell (by simp) _
end Go.Proofs.YtggjillpfclajaaGreat
