/- Texts of the proof, bundled: Cs, Dm. -/
import Derived.Test.YtggjillpfclajaaGreatU08
import Derived.Test.YtggjillpfclajaaGreatU05
/- A copy of a disk: spec.l07Copy by its contract. -/
namespace Go.Proofs.YtggjillpfclajaaGreat
open Go.RowKit Kit
set_option maxRecDepth 100000 in
set_option maxHeartbeats 3200000 in
theorem specCopy_any (u v iv bv : Value) (xs ys : List Bool) (is : List Ino) (bs : List Blk) (w : World) (h : DR w u v iv bv xs ys is bs) (hB : Big 1048576 xs ys is bs) :
    Calls Tryz.prog 55 #[.agg #[u, v, iv, bv]] w fun e w' => ∃ u' v' i' b', e = .returned (.agg #[u', v', i', b']) ∧ DO w' (fun k => w.heap.size ≤ k) u' v' i' b' xs ys is bs ∧ Below w.heap.size w w' := by
  have H := hide h
  have HG := hide hB
  have hil : is.length ≤ 1048576 := hB.i
  have hbl : bs.length ≤ 1048576 := hB.b
  obtain ⟨a1, c1, a2, c2, a3, c3, a4, c4, rfl, rfl, rfl, rfl⟩ := h.form
  clear hB h
  go_enter Tryz.func55, Tryz.ntmps55
  go_wp2_with fail
  refine (copyB_any _ _ xs ys _ ((H.out.a.alloc _).alloc _) ((H.out.b.alloc _).alloc _) HG.out.x HG.out.y).mono ?_
  rintro e w1 ⟨u1, v1, rfl, T1, B1⟩
  obtain ⟨d1, f1, d2, f2, rfl, rfl⟩ := T1.form
  have HD := hide (dz_start (A := #[.slice a1 xs.length c1, .slice a2 ys.length c2, .slice a3 is.length c3, .slice a4 bs.length c4]) B1 T1)
  clear T1 B1
  go_wp2_with fail
  generalize w1.heap.size = b at *
  generalize w1.alloc (.cells #[.slice d1 xs.length f1, .slice d2 ys.length f2, .slice none 0 0, .slice none 0 0] 37) = W1 at *
  go_loopw [4] (fun i wr => ∃ j : Nat, j ≤ is.length ∧ i = .int .i64 j ∧ Hid (∃ iv, Dz w wr #[.slice a1 xs.length c1, .slice a2 ys.length c2, .slice a3 is.length c3, .slice a4 bs.length c4] b (.slice d1 xs.length f1) (.slice d2 ys.length f2) iv (.slice none 0 0) xs ys (is.take j) [])) (fun i _ => is.length - (intOf i).toNat)
  case atStart => exact ⟨0, Nat.zero_le _, rfl, _, HD.out⟩
  case round =>
    obtain ⟨j, hj, rfl, HR⟩ := hrel
    obtain ⟨iv, hds⟩ := HR.out
    by_cases hlt : j < is.length
    · obtain ⟨ti, k1, k2, k3⟩ := hds.drew.appI
      obtain ⟨gi, ci, rfl, -⟩ := k1.form
      obtain ⟨ai, cai, ei, -, hci⟩ := H.out.i.ino
      obtain ⟨g, off, p, rfl, hg, m1, m2, m3, hp⟩ := hci j hlt
      simp only [Value.slice.injEq] at ei
      obtain ⟨rfl, -, rfl⟩ := ei
      have hpl := HG.out.p j hlt
      have htk : is.take j ++ [is[j]] = is.take (j + 1) := List.take_append_getElem hlt
      obtain ⟨X, hX⟩ : ∃ X, is[j] = X := ⟨_, rfl⟩
      obtain ⟨y, s, z⟩ := X
      rw [hX] at m1 m2 hp hpl htk
      simp only at m1 m2 hp hpl
      obtain ⟨pa, pc, rfl⟩ := hp.form
      have hti : ti.length = j := by rw [k2, List.length_take]; omega
      have HX := hide (And.intro k1 (And.intro k3 hti))
      have HDS := hide hds
      have HP : Hid (∀ W, Below w.heap.size w W → RInts W (.slice pa z.length pc) z) := fun W b => hp.below b (Nat.le_refl _)
      have HPL := hide hpl
      have HTK := hide htk
      have HC : Hid (∀ W, Below wr.drew.heap.size wr.drew W → W.cell? ⟨b, 2, none⟩ = some (.slice gi ti.length ci) ∧ W.cell? ⟨w.heap.size, 2, none⟩ = some (.slice (some ⟨g, off, none⟩) is.length c3) ∧ W.cell? ⟨g, off + j * 3, none⟩ = some (.int .i64 y) ∧ W.cell? ⟨g, off + j * 3 + 1, none⟩ = some (.int .i64 s) ∧ W.cell? ⟨g, off + j * 3 + 2, none⟩ = some (.slice pa z.length pc) ∧ Below w.heap.size w W) := fun W b => by
        have hw := HDS.out.drew.below b
        exact ⟨hw.box.cell 2, hw.arg.cell 2, (hw.bel.cell (p := ⟨g, off + j * 3, none⟩) hg).trans m1, (hw.bel.cell (p := ⟨g, off + j * 3 + 1, none⟩) hg).trans m2, (hw.bel.cell (p := ⟨g, off + j * 3 + 2, none⟩) hg).trans m3, hw.bel⟩
      have b0 := HDS.out.arg.cell 2
      simp at b0
      have j0 : (0 : Int) ≤ (j : Int) := by omega
      have j1 : (j : Int) < (is.length : Int) := by omega
      clear k1 k2 k3 hds HR hti m1 m2 m3 hp hpl htk hci hX hg
      go_wp2_with fail
      refine wp_region_frm (by kernel_rfl) [0, 1, 2, 3, 4, 5, 6, 7, 8] [9, 10, 11] (fun i => match i with | 0 => .const [] (.pointer (some ⟨b, 2, none⟩)) | 1 => .const [0] (.slice gi ti.length ci) | 2 => .const [] (.pointer (some ⟨w.heap.size, 2, none⟩)) | 3 => .const [2] (.slice (some ⟨g, off, none⟩) is.length c3) | 4 => .const [] (.int .i64 (j : Int)) | 5 => .const [3, 4] (.pointer (some ⟨g, off + j * 3, none⟩)) | 6 => .const [5] (.agg #[.int .i64 y, .int .i64 s, .slice pa z.length pc]) | 7 => MkI 6 y s z | 8 => MkI1 7 y s | _ => .triv) (fun x => ⟨#[Value.agg #[Value.slice a1 xs.length c1, Value.slice a2 ys.length c2, Value.slice (some { block := g, off := off }) is.length c3, Value.slice a4 bs.length c4], Value.pointer (some { block := w.heap.size, off := 0 }), Value.pointer (some { block := w.heap.size + 1, off := 0 }), Value.pointer (some { block := b, off := 0 }), Value.int IntKind.i64 ↑j, undef, Value.pointer (some { block := w.heap.size, off := 0 }), Value.agg #[Value.slice a1 xs.length c1, Value.slice a2 ys.length c2], Value.agg #[Value.slice d1 xs.length f1, Value.slice d2 ys.length f2], Value.agg #[Value.slice d1 xs.length f1, Value.slice d2 ys.length f2, Value.slice none 0 0, Value.slice none 0 0], Value.int IntKind.i64 ↑j, Value.pointer (some { block := w.heap.size, off := 2 }), Value.slice (some { block := g, off := off }) is.length c3, Value.int IntKind.i64 ↑is.length, Value.bool true, u15, u16, x 0, x 1, x 2, x 3, x 4, x 5, x 6, x 7, x 8, u26, u27, undef, undef, undef, undef, undef, undef, undef, undef, undef, undef, undef, undef, undef, undef, undef, undef, undef, undef, undef], []⟩) (fun i => match i with | 0 => u17 | 1 => u18 | 2 => u19 | 3 => u20 | 4 => u21 | 5 => u22 | 6 => u23 | 7 => u24 | 8 => u25 | _ => undef) rfl (by kernel_rfl) (by kernel_rfl) (by kernel_rfl) rfl ?_ ?_
      · intro jo hj so x iw W hd hp K hK
        simp only [List.mem_cons, List.not_mem_nil, or_false] at hj
        rcases hj with rfl | rfl | rfl | rfl | rfl | rfl | rfl | rfl | rfl
        · refine wpOp_step (o := _) rfl fun K' hK' => ?_
          have HK : Hid (∀ v W', Below W.heap.size W W' → ((Mk.const [] (.pointer (some ⟨b, 2, none⟩)) : Mk)).P W.heap.size W'.heap.size W' v (upd x 0 v) → K' ⟨#[Value.agg #[Value.slice a1 xs.length c1, Value.slice a2 ys.length c2, Value.slice (some { block := g, off := off }) is.length c3, Value.slice a4 bs.length c4], Value.pointer (some { block := w.heap.size, off := 0 }), Value.pointer (some { block := w.heap.size + 1, off := 0 }), Value.pointer (some { block := b, off := 0 }), Value.int IntKind.i64 ↑j, undef, Value.pointer (some { block := w.heap.size, off := 0 }), Value.agg #[Value.slice a1 xs.length c1, Value.slice a2 ys.length c2], Value.agg #[Value.slice d1 xs.length f1, Value.slice d2 ys.length f2], Value.agg #[Value.slice d1 xs.length f1, Value.slice d2 ys.length f2, Value.slice none 0 0, Value.slice none 0 0], Value.int IntKind.i64 ↑j, Value.pointer (some { block := w.heap.size, off := 2 }), Value.slice (some { block := g, off := off }) is.length c3, Value.int IntKind.i64 ↑is.length, Value.bool true, u15, u16, v, x 1, x 2, x 3, x 4, x 5, x 6, x 7, x 8, u26, u27, undef, undef, undef, undef, undef, undef, undef, undef, undef, undef, undef, undef, undef, undef, undef, undef, undef, undef, undef], []⟩ W') := fun v W' h1 h2 => hK' _ _ (hK v W' h1 h2)
          clear hK hK' hp hd
          go_simp
          exact HK.out _ _ (Below.refl _ _) rfl
        · refine wpOp_step (o := _) rfl fun K' hK' => ?_
          have HK : Hid (∀ v W', Below W.heap.size W W' → ((Mk.const [0] (.slice gi ti.length ci) : Mk)).P W.heap.size W'.heap.size W' v (upd x 1 v) → K' ⟨#[Value.agg #[Value.slice a1 xs.length c1, Value.slice a2 ys.length c2, Value.slice (some { block := g, off := off }) is.length c3, Value.slice a4 bs.length c4], Value.pointer (some { block := w.heap.size, off := 0 }), Value.pointer (some { block := w.heap.size + 1, off := 0 }), Value.pointer (some { block := b, off := 0 }), Value.int IntKind.i64 ↑j, undef, Value.pointer (some { block := w.heap.size, off := 0 }), Value.agg #[Value.slice a1 xs.length c1, Value.slice a2 ys.length c2], Value.agg #[Value.slice d1 xs.length f1, Value.slice d2 ys.length f2], Value.agg #[Value.slice d1 xs.length f1, Value.slice d2 ys.length f2, Value.slice none 0 0, Value.slice none 0 0], Value.int IntKind.i64 ↑j, Value.pointer (some { block := w.heap.size, off := 2 }), Value.slice (some { block := g, off := off }) is.length c3, Value.int IntKind.i64 ↑is.length, Value.bool true, u15, u16, x 0, v, x 2, x 3, x 4, x 5, x 6, x 7, x 8, u26, u27, undef, undef, undef, undef, undef, undef, undef, undef, undef, undef, undef, undef, undef, undef, undef, undef, undef, undef, undef], []⟩ W') := fun v W' h1 h2 => hK' _ _ (hK v W' h1 h2)
          have e0 : x 0 = .pointer (some ⟨b, 2, none⟩) := hp.post 0 (hd 0 (show 0 ∈ [0] from by decide))
          have q0 := (HC.out W hp.bel).1
          clear hK hK' hp hd
          simp only [e0] at HK ⊢
          go_simp
          exact HK.out _ _ (Below.refl _ _) rfl
        · refine wpOp_step (o := _) rfl fun K' hK' => ?_
          have HK : Hid (∀ v W', Below W.heap.size W W' → ((Mk.const [] (.pointer (some ⟨w.heap.size, 2, none⟩)) : Mk)).P W.heap.size W'.heap.size W' v (upd x 2 v) → K' ⟨#[Value.agg #[Value.slice a1 xs.length c1, Value.slice a2 ys.length c2, Value.slice (some { block := g, off := off }) is.length c3, Value.slice a4 bs.length c4], Value.pointer (some { block := w.heap.size, off := 0 }), Value.pointer (some { block := w.heap.size + 1, off := 0 }), Value.pointer (some { block := b, off := 0 }), Value.int IntKind.i64 ↑j, undef, Value.pointer (some { block := w.heap.size, off := 0 }), Value.agg #[Value.slice a1 xs.length c1, Value.slice a2 ys.length c2], Value.agg #[Value.slice d1 xs.length f1, Value.slice d2 ys.length f2], Value.agg #[Value.slice d1 xs.length f1, Value.slice d2 ys.length f2, Value.slice none 0 0, Value.slice none 0 0], Value.int IntKind.i64 ↑j, Value.pointer (some { block := w.heap.size, off := 2 }), Value.slice (some { block := g, off := off }) is.length c3, Value.int IntKind.i64 ↑is.length, Value.bool true, u15, u16, x 0, x 1, v, x 3, x 4, x 5, x 6, x 7, x 8, u26, u27, undef, undef, undef, undef, undef, undef, undef, undef, undef, undef, undef, undef, undef, undef, undef, undef, undef, undef, undef], []⟩ W') := fun v W' h1 h2 => hK' _ _ (hK v W' h1 h2)
          clear hK hK' hp hd
          go_simp
          exact HK.out _ _ (Below.refl _ _) rfl
        · refine wpOp_step (o := _) rfl fun K' hK' => ?_
          have HK : Hid (∀ v W', Below W.heap.size W W' → ((Mk.const [2] (.slice (some ⟨g, off, none⟩) is.length c3) : Mk)).P W.heap.size W'.heap.size W' v (upd x 3 v) → K' ⟨#[Value.agg #[Value.slice a1 xs.length c1, Value.slice a2 ys.length c2, Value.slice (some { block := g, off := off }) is.length c3, Value.slice a4 bs.length c4], Value.pointer (some { block := w.heap.size, off := 0 }), Value.pointer (some { block := w.heap.size + 1, off := 0 }), Value.pointer (some { block := b, off := 0 }), Value.int IntKind.i64 ↑j, undef, Value.pointer (some { block := w.heap.size, off := 0 }), Value.agg #[Value.slice a1 xs.length c1, Value.slice a2 ys.length c2], Value.agg #[Value.slice d1 xs.length f1, Value.slice d2 ys.length f2], Value.agg #[Value.slice d1 xs.length f1, Value.slice d2 ys.length f2, Value.slice none 0 0, Value.slice none 0 0], Value.int IntKind.i64 ↑j, Value.pointer (some { block := w.heap.size, off := 2 }), Value.slice (some { block := g, off := off }) is.length c3, Value.int IntKind.i64 ↑is.length, Value.bool true, u15, u16, x 0, x 1, x 2, v, x 4, x 5, x 6, x 7, x 8, u26, u27, undef, undef, undef, undef, undef, undef, undef, undef, undef, undef, undef, undef, undef, undef, undef, undef, undef, undef, undef], []⟩ W') := fun v W' h1 h2 => hK' _ _ (hK v W' h1 h2)
          have e2 : x 2 = .pointer (some ⟨w.heap.size, 2, none⟩) := hp.post 2 (hd 2 (show 2 ∈ [2] from by decide))
          have q0 := (HC.out W hp.bel).2.1
          clear hK hK' hp hd
          simp only [e2] at HK ⊢
          go_simp
          exact HK.out _ _ (Below.refl _ _) rfl
        · refine wpOp_step (o := _) rfl fun K' hK' => ?_
          have HK : Hid (∀ v W', Below W.heap.size W W' → ((Mk.const [] (.int .i64 (j : Int)) : Mk)).P W.heap.size W'.heap.size W' v (upd x 4 v) → K' ⟨#[Value.agg #[Value.slice a1 xs.length c1, Value.slice a2 ys.length c2, Value.slice (some { block := g, off := off }) is.length c3, Value.slice a4 bs.length c4], Value.pointer (some { block := w.heap.size, off := 0 }), Value.pointer (some { block := w.heap.size + 1, off := 0 }), Value.pointer (some { block := b, off := 0 }), Value.int IntKind.i64 ↑j, undef, Value.pointer (some { block := w.heap.size, off := 0 }), Value.agg #[Value.slice a1 xs.length c1, Value.slice a2 ys.length c2], Value.agg #[Value.slice d1 xs.length f1, Value.slice d2 ys.length f2], Value.agg #[Value.slice d1 xs.length f1, Value.slice d2 ys.length f2, Value.slice none 0 0, Value.slice none 0 0], Value.int IntKind.i64 ↑j, Value.pointer (some { block := w.heap.size, off := 2 }), Value.slice (some { block := g, off := off }) is.length c3, Value.int IntKind.i64 ↑is.length, Value.bool true, u15, u16, x 0, x 1, x 2, x 3, v, x 5, x 6, x 7, x 8, u26, u27, undef, undef, undef, undef, undef, undef, undef, undef, undef, undef, undef, undef, undef, undef, undef, undef, undef, undef, undef], []⟩ W') := fun v W' h1 h2 => hK' _ _ (hK v W' h1 h2)
          clear hK hK' hp hd
          go_simp
          exact HK.out _ _ (Below.refl _ _) rfl
        · refine wpOp_step (o := _) rfl fun K' hK' => ?_
          have HK : Hid (∀ v W', Below W.heap.size W W' → ((Mk.const [3, 4] (.pointer (some ⟨g, off + j * 3, none⟩)) : Mk)).P W.heap.size W'.heap.size W' v (upd x 5 v) → K' ⟨#[Value.agg #[Value.slice a1 xs.length c1, Value.slice a2 ys.length c2, Value.slice (some { block := g, off := off }) is.length c3, Value.slice a4 bs.length c4], Value.pointer (some { block := w.heap.size, off := 0 }), Value.pointer (some { block := w.heap.size + 1, off := 0 }), Value.pointer (some { block := b, off := 0 }), Value.int IntKind.i64 ↑j, undef, Value.pointer (some { block := w.heap.size, off := 0 }), Value.agg #[Value.slice a1 xs.length c1, Value.slice a2 ys.length c2], Value.agg #[Value.slice d1 xs.length f1, Value.slice d2 ys.length f2], Value.agg #[Value.slice d1 xs.length f1, Value.slice d2 ys.length f2, Value.slice none 0 0, Value.slice none 0 0], Value.int IntKind.i64 ↑j, Value.pointer (some { block := w.heap.size, off := 2 }), Value.slice (some { block := g, off := off }) is.length c3, Value.int IntKind.i64 ↑is.length, Value.bool true, u15, u16, x 0, x 1, x 2, x 3, x 4, v, x 6, x 7, x 8, u26, u27, undef, undef, undef, undef, undef, undef, undef, undef, undef, undef, undef, undef, undef, undef, undef, undef, undef, undef, undef], []⟩ W') := fun v W' h1 h2 => hK' _ _ (hK v W' h1 h2)
          have e3 : x 3 = .slice (some ⟨g, off, none⟩) is.length c3 := hp.post 3 (hd 3 (show 3 ∈ [3, 4] from by decide))
          have e4 : x 4 = .int .i64 (j : Int) := hp.post 4 (hd 4 (show 4 ∈ [3, 4] from by decide))
          clear hK hK' hp hd
          simp only [e3, e4] at HK ⊢
          go_simp
          exact HK.out _ _ (Below.refl _ _) rfl
        · refine wpOp_step (o := _) rfl fun K' hK' => ?_
          have HK : Hid (∀ v W', Below W.heap.size W W' → ((Mk.const [5] (.agg #[.int .i64 y, .int .i64 s, .slice pa z.length pc]) : Mk)).P W.heap.size W'.heap.size W' v (upd x 6 v) → K' ⟨#[Value.agg #[Value.slice a1 xs.length c1, Value.slice a2 ys.length c2, Value.slice (some { block := g, off := off }) is.length c3, Value.slice a4 bs.length c4], Value.pointer (some { block := w.heap.size, off := 0 }), Value.pointer (some { block := w.heap.size + 1, off := 0 }), Value.pointer (some { block := b, off := 0 }), Value.int IntKind.i64 ↑j, undef, Value.pointer (some { block := w.heap.size, off := 0 }), Value.agg #[Value.slice a1 xs.length c1, Value.slice a2 ys.length c2], Value.agg #[Value.slice d1 xs.length f1, Value.slice d2 ys.length f2], Value.agg #[Value.slice d1 xs.length f1, Value.slice d2 ys.length f2, Value.slice none 0 0, Value.slice none 0 0], Value.int IntKind.i64 ↑j, Value.pointer (some { block := w.heap.size, off := 2 }), Value.slice (some { block := g, off := off }) is.length c3, Value.int IntKind.i64 ↑is.length, Value.bool true, u15, u16, x 0, x 1, x 2, x 3, x 4, x 5, v, x 7, x 8, u26, u27, undef, undef, undef, undef, undef, undef, undef, undef, undef, undef, undef, undef, undef, undef, undef, undef, undef, undef, undef], []⟩ W') := fun v W' h1 h2 => hK' _ _ (hK v W' h1 h2)
          have e5 : x 5 = .pointer (some ⟨g, off + j * 3, none⟩) := hp.post 5 (hd 5 (show 5 ∈ [5] from by decide))
          obtain ⟨-, -, q0, q1, q2, -⟩ := HC.out W hp.bel
          clear hK hK' hp hd
          simp only [e5] at HK ⊢
          go_simp
          exact HK.out _ _ (Below.refl _ _) rfl
        · refine wpOp_step (o := _) rfl fun K' hK' => ?_
          have HK : Hid (∀ v W', Below W.heap.size W W' → (MkI 6 y s z).P W.heap.size W'.heap.size W' v (upd x 7 v) → K' ⟨#[Value.agg #[Value.slice a1 xs.length c1, Value.slice a2 ys.length c2, Value.slice (some { block := g, off := off }) is.length c3, Value.slice a4 bs.length c4], Value.pointer (some { block := w.heap.size, off := 0 }), Value.pointer (some { block := w.heap.size + 1, off := 0 }), Value.pointer (some { block := b, off := 0 }), Value.int IntKind.i64 ↑j, undef, Value.pointer (some { block := w.heap.size, off := 0 }), Value.agg #[Value.slice a1 xs.length c1, Value.slice a2 ys.length c2], Value.agg #[Value.slice d1 xs.length f1, Value.slice d2 ys.length f2], Value.agg #[Value.slice d1 xs.length f1, Value.slice d2 ys.length f2, Value.slice none 0 0, Value.slice none 0 0], Value.int IntKind.i64 ↑j, Value.pointer (some { block := w.heap.size, off := 2 }), Value.slice (some { block := g, off := off }) is.length c3, Value.int IntKind.i64 ↑is.length, Value.bool true, u15, u16, x 0, x 1, x 2, x 3, x 4, x 5, x 6, v, x 8, u26, u27, undef, undef, undef, undef, undef, undef, undef, undef, undef, undef, undef, undef, undef, undef, undef, undef, undef, undef, undef], []⟩ W') := fun v W' h1 h2 => hK' _ _ (hK v W' h1 h2)
          have e6 : x 6 = .agg #[.int .i64 y, .int .i64 s, .slice pa z.length pc] := hp.post 6 (hd 6 (show 6 ∈ [6] from by decide))
          have bl := (HC.out W hp.bel).2.2.2.2.2
          clear hK hK' hp hd
          simp only [e6] at HK ⊢
          go_simp
          refine (copyI_any y s _ z W (HP.out W bl) HPL.out).mono ?_
          rintro e w6 ⟨p6, rfl, O6, B6⟩
          go_simp
          exact HK.out _ _ B6 ⟨p6, rfl, O6, fun i hi => (O6.lt i hi).2⟩
        · refine wpOp_step (o := _) rfl fun K' hK' => ?_
          have HK : Hid (∀ v W', Below W.heap.size W W' → (MkI1 7 y s).P W.heap.size W'.heap.size W' v (upd x 8 v) → K' ⟨#[Value.agg #[Value.slice a1 xs.length c1, Value.slice a2 ys.length c2, Value.slice (some { block := g, off := off }) is.length c3, Value.slice a4 bs.length c4], Value.pointer (some { block := w.heap.size, off := 0 }), Value.pointer (some { block := w.heap.size + 1, off := 0 }), Value.pointer (some { block := b, off := 0 }), Value.int IntKind.i64 ↑j, undef, Value.pointer (some { block := w.heap.size, off := 0 }), Value.agg #[Value.slice a1 xs.length c1, Value.slice a2 ys.length c2], Value.agg #[Value.slice d1 xs.length f1, Value.slice d2 ys.length f2], Value.agg #[Value.slice d1 xs.length f1, Value.slice d2 ys.length f2, Value.slice none 0 0, Value.slice none 0 0], Value.int IntKind.i64 ↑j, Value.pointer (some { block := w.heap.size, off := 2 }), Value.slice (some { block := g, off := off }) is.length c3, Value.int IntKind.i64 ↑is.length, Value.bool true, u15, u16, x 0, x 1, x 2, x 3, x 4, x 5, x 6, x 7, v, u26, u27, undef, undef, undef, undef, undef, undef, undef, undef, undef, undef, undef, undef, undef, undef, undef, undef, undef, undef, undef], []⟩ W') := fun v W' h1 h2 => hK' _ _ (hK v W' h1 h2)
          have e7 : ∃ u, x 7 = .agg #[.int .i64 y, .int .i64 s, u] ∧ ROwns W (iw 7).1 3 u (ic z) ∧ ∀ i, u.ownBlock = some i → i < (iw 7).2 := hp.post 7 (hd 7 (show 7 ∈ [7] from by decide))
          clear hK hK' hp hd
          obtain ⟨p7, e7, O7, -⟩ := e7
          obtain ⟨pb, pd, rfl⟩ := O7.rints.form
          clear O7
          have HE := hide e7
          simp only [e7] at HK ⊢
          clear e7
          go_simp
          exact HK.out _ _ ((Below.refl _ W).alloc (Nat.le_refl _) _) ⟨rfl, by simp, .slice pb z.length pd, by rw [upd_ne _ _ _ _ (by decide)]; exact HE.out, AtC.new W 111 _⟩
      · intro x iw W hp
        have e1 : x 1 = .slice gi ti.length ci := hp.post 1 (by decide)
        obtain ⟨p7, e7, O7, -⟩ := hp.post 7 (by decide)
        obtain ⟨e8, -, p8, f8, A8⟩ := hp.post 8 (by decide)
        rw [e7] at f8
        simp only [Value.agg.injEq, Array.mk.injEq, List.cons.injEq, and_true, true_and] at f8
        subst f8
        have l7 := (hp.lo 7 (by decide)).1
        have hbel := hp.bel
        have O9 : ROwns W wr.drew.heap.size 3 p7 (ic z) := O7.base_le l7
        obtain ⟨pb, pd, rfl⟩ := O9.rints.form
        have hT : TOwns W 111 (.slice gi ti.length ci) ti := HX.out.1.of_heap fun k hk => hbel.block k (HX.out.1.lt k hk)
        have HN : Hid (∀ v' w', TOwns w' 111 v' (ti ++ [(.int .i64 y, .int .i64 s, .slice pb z.length pd)]) → W.grownBy w' (Value.slice gi ti.length ci).ownBlock → (∀ k, v'.ownBlock = some k → (Value.slice gi ti.length ci).ownBlock = some k ∨ W.heap.size ≤ k) → (AtC w' b 37 #[.slice d1 xs.length f1, .slice d2 ys.length f2, .slice gi ti.length ci, .slice none 0 0]) ∧ Dz w (w'.setCell ⟨b, 2, none⟩ v') #[.slice a1 xs.length c1, .slice a2 ys.length c2, .slice (some ⟨g, off, none⟩) is.length c3, .slice a4 bs.length c4] b (.slice d1 xs.length f1) (.slice d2 ys.length f2) v' (.slice none 0 0) xs ys (is.take j ++ [(y, s, z)]) []) := fun v' w' h1 h2 h3 => HX.out.2.1 W w' v' _ (y, s, z) hbel ⟨rfl, rfl, O9.base_le (Nat.zero_le _)⟩ (fun k hk => (O9.lt k hk).1) h1 h2 h3
        have HTL : Hid (ti.length ≤ 1000000000000) := by have := HX.out.2.2; show ti.length ≤ _; omega
        have HA8 := hide A8
        have HT := hide hT
        generalize (iw 8).1 = g8 at *
        clear hT O9 O7 hp l7 hbel A8 HX HDS b0
        simp only [e1, e7, e8]
        refine wpList_step fun K' hK' => ?_
        refine step_append_three _ rfl (.tmp 18) (.tmp 25) 34 rfl 111 Tryz.u34 _ 40 Tryz.i111 rfl (by decide) (.slice gi ti.length ci) ti rfl HT.out g8 (.int .i64 y, .int .i64 s, .slice pb z.length pd) rfl ⟨HA8.out.cell 0, HA8.out.cell 1, HA8.out.cell 2⟩ ⟨rfl, rfl, rfl⟩ HTL.out ?_
        intro v9 w9 T9 G9 V9
        refine hK' _ _ ?_
        obtain ⟨e9, D9⟩ := HN.out v9 w9 T9 G9 V9
        obtain ⟨g9, c9, rfl, -⟩ := T9.form
        have e10 : (ti ++ [((.int .i64 y, .int .i64 s, .slice pb z.length pd) : V3)]).length = ti.length + 1 := by simp
        rw [e10] at D9 ⊢
        clear e10
        have z2 := e9.frozen 2
        have z3 : w9.cell? ⟨b, 2, none⟩ = some (.slice gi ti.length ci) := e9.cell 2
        have H9 := hide D9
        clear e9 D9 T9 G9 V9 HN HA8 HT HTL hK' K' e1 e7 e8
        go_wp2_with fail
        rw [List.filterMap_nil]
        go_wp2
        go_roundw
        case rel => exact ⟨j + 1, by omega, by go_num, _, by rw [← HTK.out]; exact H9.out⟩
        case measure => simp [intOf]; omega
    · have hj2 : j = is.length := by omega
      subst hj2
      rw [List.take_length] at hds
      obtain ⟨a5, c5, a6, c6, a7, c7, a8, c8, -, -, rfl, -⟩ := hds.dsk.dr.form
      have HD2 := hide hds
      have b0 : wr.cell? ⟨w.heap.size, 2, none⟩ = some (.slice a3 is.length c3) := hds.arg.cell 2
      clear hds HR
      go_wp2_with fail
      go_loopw [5] (fun i wr => ∃ j : Nat, j ≤ bs.length ∧ i = .int .i64 j ∧ Hid (∃ bv, Dz w wr #[.slice a1 xs.length c1, .slice a2 ys.length c2, .slice a3 is.length c3, .slice a4 bs.length c4] b (.slice d1 xs.length f1) (.slice d2 ys.length f2) (.slice a7 is.length c7) bv xs ys is (bs.take j))) (fun i _ => bs.length - (intOf i).toNat)
      case atStart => exact ⟨0, Nat.zero_le _, rfl, _, HD2.out⟩
      case round =>
        obtain ⟨j, hj, rfl, HR⟩ := hrel
        obtain ⟨bv, hds⟩ := HR.out
        by_cases hlt : j < bs.length
        · obtain ⟨ti, k1, k2, k3⟩ := hds.drew.appB
          obtain ⟨gi, ci, rfl, -⟩ := k1.form
          obtain ⟨ai, cai, ei, -, hci⟩ := H.out.k.blk
          obtain ⟨g, off, p, rfl, hg, m1, m2, m3, hp⟩ := hci j hlt
          simp only [Value.slice.injEq] at ei
          obtain ⟨rfl, -, rfl⟩ := ei
          have hpl := HG.out.s j hlt
          have htk : bs.take j ++ [bs[j]] = bs.take (j + 1) := List.take_append_getElem hlt
          obtain ⟨X, hX⟩ : ∃ X, bs[j] = X := ⟨_, rfl⟩
          obtain ⟨y, z, s⟩ := X
          rw [hX] at m1 m3 hp hpl htk
          simp only at m1 m3 hp
          obtain ⟨pa, pc, rfl⟩ := hp.form
          have hti : ti.length = j := by rw [k2, List.length_take]; omega
          have HX := hide (And.intro k1 (And.intro k3 hti))
          have HDS := hide hds
          have HP : Hid (∀ W, Below w.heap.size w W → RSl W (.slice pa z.length pc) z) := fun W b => hp.below b (Nat.le_refl _)
          have HPL := hide hpl
          have HTK := hide htk
          have HC : Hid (∀ W, Below wr.drew.heap.size wr.drew W → W.cell? ⟨b, 3, none⟩ = some (.slice gi ti.length ci) ∧ W.cell? ⟨w.heap.size, 3, none⟩ = some (.slice (some ⟨g, off, none⟩) bs.length c4) ∧ W.cell? ⟨g, off + j * 3, none⟩ = some (.bool y) ∧ W.cell? ⟨g, off + j * 3 + 1, none⟩ = some (.slice pa z.length pc) ∧ W.cell? ⟨g, off + j * 3 + 2, none⟩ = some (.string s) ∧ Below w.heap.size w W) := fun W b => by
            have hw := HDS.out.drew.below b
            exact ⟨hw.box.cell 3, hw.arg.cell 3, (hw.bel.cell (p := ⟨g, off + j * 3, none⟩) hg).trans m1, (hw.bel.cell (p := ⟨g, off + j * 3 + 1, none⟩) hg).trans m2, (hw.bel.cell (p := ⟨g, off + j * 3 + 2, none⟩) hg).trans m3, hw.bel⟩
          have b0 := HDS.out.arg.cell 3
          simp at b0
          have j0 : (0 : Int) ≤ (j : Int) := by omega
          have j1 : (j : Int) < (bs.length : Int) := by omega
          clear k1 k2 k3 hds HR hti m1 m2 m3 hp hpl htk hci hX hg
          go_wp2_with fail
          refine wp_region_frm (by kernel_rfl) [0, 1, 2, 3, 4, 5, 6, 7, 8] [9, 10, 11] (fun i => match i with | 0 => .const [] (.pointer (some ⟨b, 3, none⟩)) | 1 => .const [0] (.slice gi ti.length ci) | 2 => .const [] (.pointer (some ⟨w.heap.size, 3, none⟩)) | 3 => .const [2] (.slice (some ⟨g, off, none⟩) bs.length c4) | 4 => .const [] (.int .i64 (j : Int)) | 5 => .const [3, 4] (.pointer (some ⟨g, off + j * 3, none⟩)) | 6 => .const [5] (.agg #[.bool y, .slice pa z.length pc, .string s]) | 7 => MkK 6 y s z | 8 => MkK1 7 y s | _ => .triv) (fun x => ⟨#[Value.agg #[Value.slice a1 xs.length c1, Value.slice a2 ys.length c2, Value.slice a3 is.length c3, Value.slice (some { block := g, off := off }) bs.length c4], Value.pointer (some { block := w.heap.size, off := 0 }), Value.pointer (some { block := w.heap.size + 1, off := 0 }), Value.pointer (some { block := b, off := 0 }), Value.int IntKind.i64 ↑is.length, Value.int IntKind.i64 ↑j, Value.pointer (some { block := w.heap.size, off := 0 }), Value.agg #[Value.slice a1 xs.length c1, Value.slice a2 ys.length c2], Value.agg #[Value.slice d1 xs.length f1, Value.slice d2 ys.length f2], Value.agg #[Value.slice d1 xs.length f1, Value.slice d2 ys.length f2, Value.slice none 0 0, Value.slice none 0 0], Value.int IntKind.i64 ↑is.length, Value.pointer (some { block := w.heap.size, off := 2 }), Value.slice a3 is.length c3, Value.int IntKind.i64 ↑is.length, Value.bool false, u15, u16, u17, u18, u19, u20, u21, u22, u23, u24, u25, u26, u27, Value.int IntKind.i64 ↑j, Value.pointer (some { block := w.heap.size, off := 3 }), Value.slice (some { block := g, off := off }) bs.length c4, Value.int IntKind.i64 ↑bs.length, Value.bool true, u33, u34, x 0, x 1, x 2, x 3, x 4, x 5, x 6, x 7, x 8, u44, u45, undef], []⟩) (fun i => match i with | 0 => u35 | 1 => u36 | 2 => u37 | 3 => u38 | 4 => u39 | 5 => u40 | 6 => u41 | 7 => u42 | 8 => u43 | _ => undef) rfl (by kernel_rfl) (by kernel_rfl) (by kernel_rfl) rfl ?_ ?_
          · intro jo hj so x iw W hd hp K hK
            simp only [List.mem_cons, List.not_mem_nil, or_false] at hj
            rcases hj with rfl | rfl | rfl | rfl | rfl | rfl | rfl | rfl | rfl
            · refine wpOp_step (o := _) rfl fun K' hK' => ?_
              have HK : Hid (∀ v W', Below W.heap.size W W' → ((Mk.const [] (.pointer (some ⟨b, 3, none⟩)) : Mk)).P W.heap.size W'.heap.size W' v (upd x 0 v) → K' ⟨#[Value.agg #[Value.slice a1 xs.length c1, Value.slice a2 ys.length c2, Value.slice a3 is.length c3, Value.slice (some { block := g, off := off }) bs.length c4], Value.pointer (some { block := w.heap.size, off := 0 }), Value.pointer (some { block := w.heap.size + 1, off := 0 }), Value.pointer (some { block := b, off := 0 }), Value.int IntKind.i64 ↑is.length, Value.int IntKind.i64 ↑j, Value.pointer (some { block := w.heap.size, off := 0 }), Value.agg #[Value.slice a1 xs.length c1, Value.slice a2 ys.length c2], Value.agg #[Value.slice d1 xs.length f1, Value.slice d2 ys.length f2], Value.agg #[Value.slice d1 xs.length f1, Value.slice d2 ys.length f2, Value.slice none 0 0, Value.slice none 0 0], Value.int IntKind.i64 ↑is.length, Value.pointer (some { block := w.heap.size, off := 2 }), Value.slice a3 is.length c3, Value.int IntKind.i64 ↑is.length, Value.bool false, u15, u16, u17, u18, u19, u20, u21, u22, u23, u24, u25, u26, u27, Value.int IntKind.i64 ↑j, Value.pointer (some { block := w.heap.size, off := 3 }), Value.slice (some { block := g, off := off }) bs.length c4, Value.int IntKind.i64 ↑bs.length, Value.bool true, u33, u34, v, x 1, x 2, x 3, x 4, x 5, x 6, x 7, x 8, u44, u45, undef], []⟩ W') := fun v W' h1 h2 => hK' _ _ (hK v W' h1 h2)
              clear hK hK' hp hd
              go_simp
              exact HK.out _ _ (Below.refl _ _) rfl
            · refine wpOp_step (o := _) rfl fun K' hK' => ?_
              have HK : Hid (∀ v W', Below W.heap.size W W' → ((Mk.const [0] (.slice gi ti.length ci) : Mk)).P W.heap.size W'.heap.size W' v (upd x 1 v) → K' ⟨#[Value.agg #[Value.slice a1 xs.length c1, Value.slice a2 ys.length c2, Value.slice a3 is.length c3, Value.slice (some { block := g, off := off }) bs.length c4], Value.pointer (some { block := w.heap.size, off := 0 }), Value.pointer (some { block := w.heap.size + 1, off := 0 }), Value.pointer (some { block := b, off := 0 }), Value.int IntKind.i64 ↑is.length, Value.int IntKind.i64 ↑j, Value.pointer (some { block := w.heap.size, off := 0 }), Value.agg #[Value.slice a1 xs.length c1, Value.slice a2 ys.length c2], Value.agg #[Value.slice d1 xs.length f1, Value.slice d2 ys.length f2], Value.agg #[Value.slice d1 xs.length f1, Value.slice d2 ys.length f2, Value.slice none 0 0, Value.slice none 0 0], Value.int IntKind.i64 ↑is.length, Value.pointer (some { block := w.heap.size, off := 2 }), Value.slice a3 is.length c3, Value.int IntKind.i64 ↑is.length, Value.bool false, u15, u16, u17, u18, u19, u20, u21, u22, u23, u24, u25, u26, u27, Value.int IntKind.i64 ↑j, Value.pointer (some { block := w.heap.size, off := 3 }), Value.slice (some { block := g, off := off }) bs.length c4, Value.int IntKind.i64 ↑bs.length, Value.bool true, u33, u34, x 0, v, x 2, x 3, x 4, x 5, x 6, x 7, x 8, u44, u45, undef], []⟩ W') := fun v W' h1 h2 => hK' _ _ (hK v W' h1 h2)
              have e0 : x 0 = .pointer (some ⟨b, 3, none⟩) := hp.post 0 (hd 0 (show 0 ∈ [0] from by decide))
              have q0 := (HC.out W hp.bel).1
              clear hK hK' hp hd
              simp only [e0] at HK ⊢
              go_simp
              exact HK.out _ _ (Below.refl _ _) rfl
            · refine wpOp_step (o := _) rfl fun K' hK' => ?_
              have HK : Hid (∀ v W', Below W.heap.size W W' → ((Mk.const [] (.pointer (some ⟨w.heap.size, 3, none⟩)) : Mk)).P W.heap.size W'.heap.size W' v (upd x 2 v) → K' ⟨#[Value.agg #[Value.slice a1 xs.length c1, Value.slice a2 ys.length c2, Value.slice a3 is.length c3, Value.slice (some { block := g, off := off }) bs.length c4], Value.pointer (some { block := w.heap.size, off := 0 }), Value.pointer (some { block := w.heap.size + 1, off := 0 }), Value.pointer (some { block := b, off := 0 }), Value.int IntKind.i64 ↑is.length, Value.int IntKind.i64 ↑j, Value.pointer (some { block := w.heap.size, off := 0 }), Value.agg #[Value.slice a1 xs.length c1, Value.slice a2 ys.length c2], Value.agg #[Value.slice d1 xs.length f1, Value.slice d2 ys.length f2], Value.agg #[Value.slice d1 xs.length f1, Value.slice d2 ys.length f2, Value.slice none 0 0, Value.slice none 0 0], Value.int IntKind.i64 ↑is.length, Value.pointer (some { block := w.heap.size, off := 2 }), Value.slice a3 is.length c3, Value.int IntKind.i64 ↑is.length, Value.bool false, u15, u16, u17, u18, u19, u20, u21, u22, u23, u24, u25, u26, u27, Value.int IntKind.i64 ↑j, Value.pointer (some { block := w.heap.size, off := 3 }), Value.slice (some { block := g, off := off }) bs.length c4, Value.int IntKind.i64 ↑bs.length, Value.bool true, u33, u34, x 0, x 1, v, x 3, x 4, x 5, x 6, x 7, x 8, u44, u45, undef], []⟩ W') := fun v W' h1 h2 => hK' _ _ (hK v W' h1 h2)
              clear hK hK' hp hd
              go_simp
              exact HK.out _ _ (Below.refl _ _) rfl
            · refine wpOp_step (o := _) rfl fun K' hK' => ?_
              have HK : Hid (∀ v W', Below W.heap.size W W' → ((Mk.const [2] (.slice (some ⟨g, off, none⟩) bs.length c4) : Mk)).P W.heap.size W'.heap.size W' v (upd x 3 v) → K' ⟨#[Value.agg #[Value.slice a1 xs.length c1, Value.slice a2 ys.length c2, Value.slice a3 is.length c3, Value.slice (some { block := g, off := off }) bs.length c4], Value.pointer (some { block := w.heap.size, off := 0 }), Value.pointer (some { block := w.heap.size + 1, off := 0 }), Value.pointer (some { block := b, off := 0 }), Value.int IntKind.i64 ↑is.length, Value.int IntKind.i64 ↑j, Value.pointer (some { block := w.heap.size, off := 0 }), Value.agg #[Value.slice a1 xs.length c1, Value.slice a2 ys.length c2], Value.agg #[Value.slice d1 xs.length f1, Value.slice d2 ys.length f2], Value.agg #[Value.slice d1 xs.length f1, Value.slice d2 ys.length f2, Value.slice none 0 0, Value.slice none 0 0], Value.int IntKind.i64 ↑is.length, Value.pointer (some { block := w.heap.size, off := 2 }), Value.slice a3 is.length c3, Value.int IntKind.i64 ↑is.length, Value.bool false, u15, u16, u17, u18, u19, u20, u21, u22, u23, u24, u25, u26, u27, Value.int IntKind.i64 ↑j, Value.pointer (some { block := w.heap.size, off := 3 }), Value.slice (some { block := g, off := off }) bs.length c4, Value.int IntKind.i64 ↑bs.length, Value.bool true, u33, u34, x 0, x 1, x 2, v, x 4, x 5, x 6, x 7, x 8, u44, u45, undef], []⟩ W') := fun v W' h1 h2 => hK' _ _ (hK v W' h1 h2)
              have e2 : x 2 = .pointer (some ⟨w.heap.size, 3, none⟩) := hp.post 2 (hd 2 (show 2 ∈ [2] from by decide))
              have q0 := (HC.out W hp.bel).2.1
              clear hK hK' hp hd
              simp only [e2] at HK ⊢
              go_simp
              exact HK.out _ _ (Below.refl _ _) rfl
            · refine wpOp_step (o := _) rfl fun K' hK' => ?_
              have HK : Hid (∀ v W', Below W.heap.size W W' → ((Mk.const [] (.int .i64 (j : Int)) : Mk)).P W.heap.size W'.heap.size W' v (upd x 4 v) → K' ⟨#[Value.agg #[Value.slice a1 xs.length c1, Value.slice a2 ys.length c2, Value.slice a3 is.length c3, Value.slice (some { block := g, off := off }) bs.length c4], Value.pointer (some { block := w.heap.size, off := 0 }), Value.pointer (some { block := w.heap.size + 1, off := 0 }), Value.pointer (some { block := b, off := 0 }), Value.int IntKind.i64 ↑is.length, Value.int IntKind.i64 ↑j, Value.pointer (some { block := w.heap.size, off := 0 }), Value.agg #[Value.slice a1 xs.length c1, Value.slice a2 ys.length c2], Value.agg #[Value.slice d1 xs.length f1, Value.slice d2 ys.length f2], Value.agg #[Value.slice d1 xs.length f1, Value.slice d2 ys.length f2, Value.slice none 0 0, Value.slice none 0 0], Value.int IntKind.i64 ↑is.length, Value.pointer (some { block := w.heap.size, off := 2 }), Value.slice a3 is.length c3, Value.int IntKind.i64 ↑is.length, Value.bool false, u15, u16, u17, u18, u19, u20, u21, u22, u23, u24, u25, u26, u27, Value.int IntKind.i64 ↑j, Value.pointer (some { block := w.heap.size, off := 3 }), Value.slice (some { block := g, off := off }) bs.length c4, Value.int IntKind.i64 ↑bs.length, Value.bool true, u33, u34, x 0, x 1, x 2, x 3, v, x 5, x 6, x 7, x 8, u44, u45, undef], []⟩ W') := fun v W' h1 h2 => hK' _ _ (hK v W' h1 h2)
              clear hK hK' hp hd
              go_simp
              exact HK.out _ _ (Below.refl _ _) rfl
            · refine wpOp_step (o := _) rfl fun K' hK' => ?_
              have HK : Hid (∀ v W', Below W.heap.size W W' → ((Mk.const [3, 4] (.pointer (some ⟨g, off + j * 3, none⟩)) : Mk)).P W.heap.size W'.heap.size W' v (upd x 5 v) → K' ⟨#[Value.agg #[Value.slice a1 xs.length c1, Value.slice a2 ys.length c2, Value.slice a3 is.length c3, Value.slice (some { block := g, off := off }) bs.length c4], Value.pointer (some { block := w.heap.size, off := 0 }), Value.pointer (some { block := w.heap.size + 1, off := 0 }), Value.pointer (some { block := b, off := 0 }), Value.int IntKind.i64 ↑is.length, Value.int IntKind.i64 ↑j, Value.pointer (some { block := w.heap.size, off := 0 }), Value.agg #[Value.slice a1 xs.length c1, Value.slice a2 ys.length c2], Value.agg #[Value.slice d1 xs.length f1, Value.slice d2 ys.length f2], Value.agg #[Value.slice d1 xs.length f1, Value.slice d2 ys.length f2, Value.slice none 0 0, Value.slice none 0 0], Value.int IntKind.i64 ↑is.length, Value.pointer (some { block := w.heap.size, off := 2 }), Value.slice a3 is.length c3, Value.int IntKind.i64 ↑is.length, Value.bool false, u15, u16, u17, u18, u19, u20, u21, u22, u23, u24, u25, u26, u27, Value.int IntKind.i64 ↑j, Value.pointer (some { block := w.heap.size, off := 3 }), Value.slice (some { block := g, off := off }) bs.length c4, Value.int IntKind.i64 ↑bs.length, Value.bool true, u33, u34, x 0, x 1, x 2, x 3, x 4, v, x 6, x 7, x 8, u44, u45, undef], []⟩ W') := fun v W' h1 h2 => hK' _ _ (hK v W' h1 h2)
              have e3 : x 3 = .slice (some ⟨g, off, none⟩) bs.length c4 := hp.post 3 (hd 3 (show 3 ∈ [3, 4] from by decide))
              have e4 : x 4 = .int .i64 (j : Int) := hp.post 4 (hd 4 (show 4 ∈ [3, 4] from by decide))
              clear hK hK' hp hd
              simp only [e3, e4] at HK ⊢
              go_simp
              exact HK.out _ _ (Below.refl _ _) rfl
            · refine wpOp_step (o := _) rfl fun K' hK' => ?_
              have HK : Hid (∀ v W', Below W.heap.size W W' → ((Mk.const [5] (.agg #[.bool y, .slice pa z.length pc, .string s]) : Mk)).P W.heap.size W'.heap.size W' v (upd x 6 v) → K' ⟨#[Value.agg #[Value.slice a1 xs.length c1, Value.slice a2 ys.length c2, Value.slice a3 is.length c3, Value.slice (some { block := g, off := off }) bs.length c4], Value.pointer (some { block := w.heap.size, off := 0 }), Value.pointer (some { block := w.heap.size + 1, off := 0 }), Value.pointer (some { block := b, off := 0 }), Value.int IntKind.i64 ↑is.length, Value.int IntKind.i64 ↑j, Value.pointer (some { block := w.heap.size, off := 0 }), Value.agg #[Value.slice a1 xs.length c1, Value.slice a2 ys.length c2], Value.agg #[Value.slice d1 xs.length f1, Value.slice d2 ys.length f2], Value.agg #[Value.slice d1 xs.length f1, Value.slice d2 ys.length f2, Value.slice none 0 0, Value.slice none 0 0], Value.int IntKind.i64 ↑is.length, Value.pointer (some { block := w.heap.size, off := 2 }), Value.slice a3 is.length c3, Value.int IntKind.i64 ↑is.length, Value.bool false, u15, u16, u17, u18, u19, u20, u21, u22, u23, u24, u25, u26, u27, Value.int IntKind.i64 ↑j, Value.pointer (some { block := w.heap.size, off := 3 }), Value.slice (some { block := g, off := off }) bs.length c4, Value.int IntKind.i64 ↑bs.length, Value.bool true, u33, u34, x 0, x 1, x 2, x 3, x 4, x 5, v, x 7, x 8, u44, u45, undef], []⟩ W') := fun v W' h1 h2 => hK' _ _ (hK v W' h1 h2)
              have e5 : x 5 = .pointer (some ⟨g, off + j * 3, none⟩) := hp.post 5 (hd 5 (show 5 ∈ [5] from by decide))
              obtain ⟨-, -, q0, q1, q2, -⟩ := HC.out W hp.bel
              clear hK hK' hp hd
              simp only [e5] at HK ⊢
              go_simp
              exact HK.out _ _ (Below.refl _ _) rfl
            · refine wpOp_step (o := _) rfl fun K' hK' => ?_
              have HK : Hid (∀ v W', Below W.heap.size W W' → (MkK 6 y s z).P W.heap.size W'.heap.size W' v (upd x 7 v) → K' ⟨#[Value.agg #[Value.slice a1 xs.length c1, Value.slice a2 ys.length c2, Value.slice a3 is.length c3, Value.slice (some { block := g, off := off }) bs.length c4], Value.pointer (some { block := w.heap.size, off := 0 }), Value.pointer (some { block := w.heap.size + 1, off := 0 }), Value.pointer (some { block := b, off := 0 }), Value.int IntKind.i64 ↑is.length, Value.int IntKind.i64 ↑j, Value.pointer (some { block := w.heap.size, off := 0 }), Value.agg #[Value.slice a1 xs.length c1, Value.slice a2 ys.length c2], Value.agg #[Value.slice d1 xs.length f1, Value.slice d2 ys.length f2], Value.agg #[Value.slice d1 xs.length f1, Value.slice d2 ys.length f2, Value.slice none 0 0, Value.slice none 0 0], Value.int IntKind.i64 ↑is.length, Value.pointer (some { block := w.heap.size, off := 2 }), Value.slice a3 is.length c3, Value.int IntKind.i64 ↑is.length, Value.bool false, u15, u16, u17, u18, u19, u20, u21, u22, u23, u24, u25, u26, u27, Value.int IntKind.i64 ↑j, Value.pointer (some { block := w.heap.size, off := 3 }), Value.slice (some { block := g, off := off }) bs.length c4, Value.int IntKind.i64 ↑bs.length, Value.bool true, u33, u34, x 0, x 1, x 2, x 3, x 4, x 5, x 6, v, x 8, u44, u45, undef], []⟩ W') := fun v W' h1 h2 => hK' _ _ (hK v W' h1 h2)
              have e6 : x 6 = .agg #[.bool y, .slice pa z.length pc, .string s] := hp.post 6 (hd 6 (show 6 ∈ [6] from by decide))
              have bl := (HC.out W hp.bel).2.2.2.2.2
              clear hK hK' hp hd
              simp only [e6] at HK ⊢
              go_simp
              refine (copyK_any y s _ z W (HP.out W bl) HPL.out.1).mono ?_
              rintro e w6 ⟨p6, rfl, O6, B6⟩
              go_simp
              exact HK.out _ _ B6 ⟨p6, rfl, O6, fun i hi => (O6.lt i hi).2⟩
            · refine wpOp_step (o := _) rfl fun K' hK' => ?_
              have HK : Hid (∀ v W', Below W.heap.size W W' → (MkK1 7 y s).P W.heap.size W'.heap.size W' v (upd x 8 v) → K' ⟨#[Value.agg #[Value.slice a1 xs.length c1, Value.slice a2 ys.length c2, Value.slice a3 is.length c3, Value.slice (some { block := g, off := off }) bs.length c4], Value.pointer (some { block := w.heap.size, off := 0 }), Value.pointer (some { block := w.heap.size + 1, off := 0 }), Value.pointer (some { block := b, off := 0 }), Value.int IntKind.i64 ↑is.length, Value.int IntKind.i64 ↑j, Value.pointer (some { block := w.heap.size, off := 0 }), Value.agg #[Value.slice a1 xs.length c1, Value.slice a2 ys.length c2], Value.agg #[Value.slice d1 xs.length f1, Value.slice d2 ys.length f2], Value.agg #[Value.slice d1 xs.length f1, Value.slice d2 ys.length f2, Value.slice none 0 0, Value.slice none 0 0], Value.int IntKind.i64 ↑is.length, Value.pointer (some { block := w.heap.size, off := 2 }), Value.slice a3 is.length c3, Value.int IntKind.i64 ↑is.length, Value.bool false, u15, u16, u17, u18, u19, u20, u21, u22, u23, u24, u25, u26, u27, Value.int IntKind.i64 ↑j, Value.pointer (some { block := w.heap.size, off := 3 }), Value.slice (some { block := g, off := off }) bs.length c4, Value.int IntKind.i64 ↑bs.length, Value.bool true, u33, u34, x 0, x 1, x 2, x 3, x 4, x 5, x 6, x 7, v, u44, u45, undef], []⟩ W') := fun v W' h1 h2 => hK' _ _ (hK v W' h1 h2)
              have e7 : ∃ u, x 7 = .agg #[.bool y, u, .string s] ∧ SOwns W (iw 7).1 132 u z ∧ ∀ i, u.ownBlock = some i → i < (iw 7).2 := hp.post 7 (hd 7 (show 7 ∈ [7] from by decide))
              clear hK hK' hp hd
              obtain ⟨p7, e7, O7, -⟩ := e7
              obtain ⟨pb, pd, rfl⟩ := O7.rsl.form
              clear O7
              have HE := hide e7
              simp only [e7] at HK ⊢
              clear e7
              go_simp
              exact HK.out _ _ ((Below.refl _ W).alloc (Nat.le_refl _) _) ⟨rfl, by simp, .slice pb z.length pd, by rw [upd_ne _ _ _ _ (by decide)]; exact HE.out, AtC.new W 115 _⟩
          · intro x iw W hp
            have e1 : x 1 = .slice gi ti.length ci := hp.post 1 (by decide)
            obtain ⟨p7, e7, O7, -⟩ := hp.post 7 (by decide)
            obtain ⟨e8, -, p8, f8, A8⟩ := hp.post 8 (by decide)
            rw [e7] at f8
            simp only [Value.agg.injEq, Array.mk.injEq, List.cons.injEq, and_true, true_and] at f8
            subst f8
            have l7 := (hp.lo 7 (by decide)).1
            have hbel := hp.bel
            have O9 : SOwns W wr.drew.heap.size 132 p7 z := O7.base_le l7
            obtain ⟨pb, pd, rfl⟩ := O9.rsl.form
            have hT : TOwns W 115 (.slice gi ti.length ci) ti := HX.out.1.of_heap fun k hk => hbel.block k (HX.out.1.lt k hk)
            have HN : Hid (∀ v' w', TOwns w' 115 v' (ti ++ [(.bool y, .slice pb z.length pd, .string s)]) → W.grownBy w' (Value.slice gi ti.length ci).ownBlock → (∀ k, v'.ownBlock = some k → (Value.slice gi ti.length ci).ownBlock = some k ∨ W.heap.size ≤ k) → (AtC w' b 37 #[.slice d1 xs.length f1, .slice d2 ys.length f2, .slice a7 is.length c7, .slice gi ti.length ci]) ∧ Dz w (w'.setCell ⟨b, 3, none⟩ v') #[.slice a1 xs.length c1, .slice a2 ys.length c2, .slice a3 is.length c3, .slice (some ⟨g, off, none⟩) bs.length c4] b (.slice d1 xs.length f1) (.slice d2 ys.length f2) (.slice a7 is.length c7) v' xs ys is (bs.take j ++ [(y, z, s)])) := fun v' w' h1 h2 h3 => HX.out.2.1 W w' v' _ (y, z, s) hbel ⟨rfl, O9.base_le (Nat.zero_le _), rfl⟩ (fun k hk => (O9.lt k hk).1) h1 h2 h3
            have HTL : Hid (ti.length ≤ 1000000000000) := by have := HX.out.2.2; show ti.length ≤ _; omega
            have HA8 := hide A8
            have HT := hide hT
            generalize (iw 8).1 = g8 at *
            clear hT O9 O7 hp l7 hbel A8 HX HDS b0
            simp only [e1, e7, e8]
            refine wpList_step fun K' hK' => ?_
            refine step_append_three _ rfl (.tmp 36) (.tmp 43) 35 rfl 115 Tryz.u35 _ 48 Tryz.i115 rfl (by decide) (.slice gi ti.length ci) ti rfl HT.out g8 (.bool y, .slice pb z.length pd, .string s) rfl ⟨HA8.out.cell 0, HA8.out.cell 1, HA8.out.cell 2⟩ ⟨rfl, rfl, rfl⟩ HTL.out ?_
            intro v9 w9 T9 G9 V9
            refine hK' _ _ ?_
            obtain ⟨e9, D9⟩ := HN.out v9 w9 T9 G9 V9
            obtain ⟨g9, c9, rfl, -⟩ := T9.form
            have e10 : (ti ++ [((.bool y, .slice pb z.length pd, .string s) : V3)]).length = ti.length + 1 := by simp
            rw [e10] at D9 ⊢
            clear e10
            have z2 := e9.frozen 3
            have z3 : w9.cell? ⟨b, 3, none⟩ = some (.slice gi ti.length ci) := e9.cell 3
            have H9 := hide D9
            clear e9 D9 T9 G9 V9 HN HA8 HT HTL hK' K' e1 e7 e8
            go_wp2_with fail
            rw [List.filterMap_nil]
            go_wp2
            go_roundw
            case rel => exact ⟨j + 1, by omega, by go_num, _, by rw [← HTK.out]; exact H9.out⟩
            case measure => simp [intOf]; omega
        · have hj3 : j = bs.length := by omega
          subst hj3
          rw [List.take_length] at hds
          obtain ⟨-, -, -, -, -, -, p8, q8, -, -, -, rfl⟩ := hds.dsk.dr.form
          have H7 := hide hds
          have b0 : wr.cell? ⟨w.heap.size, 3, none⟩ = some (.slice a4 bs.length c4) := hds.arg.cell 3
          have y0 : wr.cell? ⟨b, 0, none⟩ = some (.slice d1 xs.length f1) := hds.box.cell 0
          have y1 : wr.cell? ⟨b, 1, none⟩ = some (.slice d2 ys.length f2) := hds.box.cell 1
          have y2 : wr.cell? ⟨b, 2, none⟩ = some (.slice a7 is.length c7) := hds.box.cell 2
          have y3 : wr.cell? ⟨b, 3, none⟩ = some (.slice p8 bs.length q8) := hds.box.cell 3
          have r0 : wr.cell? ⟨w.heap.size + 1, 0, none⟩ = some (.slice none 0 0) := hds.res.cell 0
          have r1 : wr.cell? ⟨w.heap.size + 1, 1, none⟩ = some (.slice none 0 0) := hds.res.cell 1
          have r2 : wr.cell? ⟨w.heap.size + 1, 2, none⟩ = some (.slice none 0 0) := hds.res.cell 2
          have r3 : wr.cell? ⟨w.heap.size + 1, 3, none⟩ = some (.slice none 0 0) := hds.res.cell 3
          have v0 := hds.res.frozen 0
          have v1 := hds.res.frozen 1
          have v2 := hds.res.frozen 2
          have v3 := hds.res.frozen 3
          clear hds HR
          go_wp2
          refine bodyPost_ret (v := .agg #[.slice d1 xs.length f1, .slice d2 ys.length f2, .slice a7 is.length c7, .slice p8 bs.length q8]) (by simp [results, go_sem, r0, r1, r2, r3]) rfl ⟨_, _, _, _, rfl, ?_, ?_⟩
          · exact (H7.out.dsk.of_heap fun k hk _ => ((((heap_setCell_other _ ⟨w.heap.size + 1, 3, none⟩ k _ (by show k ≠ w.heap.size + 1; omega)).trans (heap_setCell_other _ ⟨w.heap.size + 1, 2, none⟩ k _ (by show k ≠ w.heap.size + 1; omega))).trans (heap_setCell_other _ ⟨w.heap.size + 1, 1, none⟩ k _ (by show k ≠ w.heap.size + 1; omega))).trans (heap_setCell_other _ ⟨w.heap.size + 1, 0, none⟩ k _ (by show k ≠ w.heap.size + 1; omega)))).mono fun k hk => by omega
          · exact (((H7.out.bel.setCell (by simp) _).setCell (by simp) _).setCell (by simp) _).setCell (by simp) _
end Go.Proofs.YtggjillpfclajaaGreat
/- Those that lean, while they are marked: what becomes of the list. No Go function is spoken of. -/
namespace Go.Proofs.YtggjillpfclajaaGreat.Kit
open Go.RowKit
/-- Some cells from o on are stored. -/
def setCs (w : World) (g o : Nat) : List (Nat × Value) → World
  | [] => w
  | p :: r => setCs (w.setCell ⟨g, o + p.1, none⟩ p.2) g o r
def rowCs (t : Row) : List (Nat × Value) → Row
  | [] => t
  | p :: r => rowCs (t.set p.1 p.2) r
theorem setCs_other (g o : Nat) (ps : List (Nat × Value)) : ∀ (w : World) (k : Nat), k ≠ g → (setCs w g o ps).heap[k]? = w.heap[k]? := by
  induction ps with
  | nil => exact fun _ _ _ => rfl
  | cons p r ih => exact fun w k hk => (ih _ k hk).trans (heap_setCell_other w ⟨g, o + p.1, none⟩ k p.2 hk)
theorem setCs_size (g o : Nat) (ps : List (Nat × Value)) : ∀ (w : World), (setCs w g o ps).heap.size = w.heap.size := by
  induction ps with
  | nil => exact fun _ => rfl
  | cons p r ih => exact fun w => (ih _).trans (by simp)
theorem setCs_same (g o : Nat) (ps : List (Nat × Value)) : ∀ (w : World), (setCs w g o ps).os = w.os ∧ (setCs w g o ps).tape = w.tape ∧ (setCs w g o ps).output = w.output := by
  induction ps with
  | nil => exact fun _ => ⟨rfl, rfl, rfl⟩
  | cons p r ih => exact fun w => ih _
theorem setCs_chg (g o : Nat) (ps : List (Nat × Value)) {S : Nat → Prop} (hg : S g) (w : World) : Chg S w (setCs w g o ps) :=
  ⟨(setCs_same g o ps w).1, (setCs_same g o ps w).2.1, (setCs_same g o ps w).2.2, by rw [setCs_size]; exact Nat.le_refl _, fun k _ hn => setCs_other g o ps w k (fun e => hn (e ▸ hg))⟩
theorem rowCs_length (ps : List (Nat × Value)) : ∀ (t : Row), (rowCs t ps).length = t.length := by
  induction ps with
  | nil => exact fun _ => rfl
  | cons p r ih => exact fun t => (ih _).trans (by simp)
theorem NOwns.setCs {g cap : Nat} {e : TypeId} {n : Nat} (k : Nat) (ps : List (Nat × Value)) : ∀ (w : World) (l : List Row) (hk : k < l.length), (∀ p ∈ ps, p.1 < n) → NOwns w e n (.slice (some ⟨g, 0, none⟩) l.length cap) l →
    NOwns (setCs w g (k * n) ps) e n (.slice (some ⟨g, 0, none⟩) l.length cap) (l.set k (rowCs l[k] ps)) := by
  induction ps with
  | nil =>
    intro w l hk _ h
    simp only [rowCs, List.set_getElem_self]
    exact h
  | cons p r ih =>
    intro w l hk hp h
    have h1 := h.set k p.1 hk (hp p (by simp)) p.2
    have h2 : NOwns (w.setCell ⟨g, k * n + p.1, none⟩ p.2) e n (.slice (some ⟨g, 0, none⟩) (l.set k (l[k].set p.1 p.2)).length cap) (l.set k (l[k].set p.1 p.2)) := by rw [List.length_set]; exact h1
    have h3 := ih _ _ (by simpa using hk) (fun q hq => hp q (by simp [hq])) h2
    simp only [List.length_set, List.getElem_set_self, List.set_set] at h3
    exact h3
theorem NOwns.deps {w : World} {v : Value} {l : List Row} (h : NOwns w 52 11 v l) (k : Nat) (hk : k < l.length) {d : Dp} {p : Value} (hd : l[k] = d.row p) {g n cap : Nat} (hv : v = .slice (some ⟨g, 0, none⟩) n cap) : DCells w g (k * 11) d p ∧ ∀ j, w.frozen? ⟨g, j, none⟩ = false := by
  obtain ⟨g', cap', e, h1, h2, -⟩ := h.at k hk
  rw [hv] at e
  simp only [Value.slice.injEq, Option.some.injEq, Addr.mk.injEq] at e
  obtain ⟨⟨rfl, -⟩, -⟩ := e
  exact ⟨DCells.of fun i hi => by rw [h1 i hi, hd], h2⟩
/-- One that leans is marked: its first six cells, then (in a grown world) four more, then its list. -/
theorem GN.markD {w w2 : World} {S : Nat → Prop} {v : Value} {ts : List Row} {xs : List Dp} (h : GN KDep w S v ts xs) {g n cap : Nat} (hv : v = .slice (some ⟨g, 0, none⟩) n cap) (j : Nat) (hj : j < ts.length) {d : Dp} {p : Value} (hd : ts[j] = d.row p) (a0 a1 a2 a3 a4 a5 : Int)
    (hb : Below (setCs w g (j * 11) [(0, .int .i64 a0), (1, .int .i64 a1), (2, .int .i64 a2), (3, .int .i64 a3), (4, .int .i64 a4), (5, .int .i64 a5)]).heap.size (setCs w g (j * 11) [(0, .int .i64 a0), (1, .int .i64 a1), (2, .int .i64 a2), (3, .int .i64 a3), (4, .int .i64 a4), (5, .int .i64 a5)]) w2) :
    DCells w2 g (j * 11) ⟨a0, a1, a2, a3, a4, a5, d.nm, d.bt, d.ot, d.af, d.bl⟩ p ∧ (∀ i, w2.frozen? ⟨g, i, none⟩ = false) ∧
    ∀ (t : ByteArray) (b7 b8 : Bool) (a9 : Int) (l l' : List Int), ROwns w 0 3 p (ic l) →
      ROwns (setCs w2 g (j * 11) [(6, .string t), (7, .bool b7), (8, .bool b8), (9, .int .i64 a9)]) 0 3 p (ic l) ∧
      ∀ w4, ROwns w4 0 3 p (ic l') → (setCs w2 g (j * 11) [(6, .string t), (7, .bool b7), (8, .bool b8), (9, .int .i64 a9)]).grownBy w4 p.ownBlock →
        GN KDep w4 S v (ts.set j ((⟨a0, a1, a2, a3, a4, a5, t, b7, b8, a9, l'⟩ : Dp).row p)) (xs.set j ⟨a0, a1, a2, a3, a4, a5, t, b7, b8, a9, l'⟩) ∧ Chg S w w4 := by
  have hn : n = ts.length := h.len_of hv
  subst hn
  have hrow : NOwns w 52 11 (.slice (some ⟨g, 0, none⟩) ts.length cap) ts := by rw [← hv]; exact h.row
  have hgw : g < w.heap.size := hrow.lt g rfl
  have hSg : S g := h.so g (by rw [hv]; rfl)
  have hne : ∀ m, p.ownBlock = some m → m ≠ g := fun m hm e => h.out j hj m (by rw [hd]; exact hm) (by rw [hv, e]; rfl)
  have hpS : ∀ m, p.ownBlock = some m → S m := fun m hm => h.si j hj m (by rw [hd]; exact hm)
  have r1 := hrow.setCs j [(0, .int .i64 a0), (1, .int .i64 a1), (2, .int .i64 a2), (3, .int .i64 a3), (4, .int .i64 a4), (5, .int .i64 a5)] w ts hj (by simp)
  rw [hd] at r1
  have c1 : Chg S w (setCs w g (j * 11) [(0, .int .i64 a0), (1, .int .i64 a1), (2, .int .i64 a2), (3, .int .i64 a3), (4, .int .i64 a4), (5, .int .i64 a5)]) := setCs_chg g _ _ hSg w
  have o1 := fun k hk => setCs_other g (j * 11) [(0, .int .i64 a0), (1, .int .i64 a1), (2, .int .i64 a2), (3, .int .i64 a3), (4, .int .i64 a4), (5, .int .i64 a5)] w k hk
  have s1 := setCs_size g (j * 11) [(0, .int .i64 a0), (1, .int .i64 a1), (2, .int .i64 a2), (3, .int .i64 a3), (4, .int .i64 a4), (5, .int .i64 a5)] w
  generalize setCs w g (j * 11) [(0, .int .i64 a0), (1, .int .i64 a1), (2, .int .i64 a2), (3, .int .i64 a3), (4, .int .i64 a4), (5, .int .i64 a5)] = W1 at *
  have r2 : NOwns w2 52 11 (.slice (some ⟨g, 0, none⟩) ts.length cap) (ts.set j ((⟨a0, a1, a2, a3, a4, a5, d.nm, d.bt, d.ot, d.af, d.bl⟩ : Dp).row p)) := r1.of_heap fun k hk => hb.block k (r1.lt k hk)
  have hb2 := hb.size
  have q := r2.deps j (by simpa using hj) (d := ⟨a0, a1, a2, a3, a4, a5, d.nm, d.bt, d.ot, d.af, d.bl⟩) (p := p) (by rw [List.getElem_set_self]) rfl
  refine ⟨q.1, q.2, fun t b7 b8 a9 l l' hO => ?_⟩
  have hl2 : (ts.set j ((⟨a0, a1, a2, a3, a4, a5, d.nm, d.bt, d.ot, d.af, d.bl⟩ : Dp).row p)).length = ts.length := by simp
  have r3 := NOwns.setCs (g := g) (cap := cap) (e := 52) (n := 11) j [(6, .string t), (7, .bool b7), (8, .bool b8), (9, .int .i64 a9)] w2 (ts.set j ((⟨a0, a1, a2, a3, a4, a5, d.nm, d.bt, d.ot, d.af, d.bl⟩ : Dp).row p)) (by simpa using hj) (by simp) (by rw [hl2]; exact r2)
  simp only [List.length_set, List.getElem_set_self, List.set_set] at r3
  have c3 : Chg S w2 (setCs w2 g (j * 11) [(6, .string t), (7, .bool b7), (8, .bool b8), (9, .int .i64 a9)]) := setCs_chg g _ _ hSg w2
  have o3 := fun k hk => setCs_other g (j * 11) [(6, .string t), (7, .bool b7), (8, .bool b8), (9, .int .i64 a9)] w2 k hk
  have s3 := setCs_size g (j * 11) [(6, .string t), (7, .bool b7), (8, .bool b8), (9, .int .i64 a9)] w2
  generalize setCs w2 g (j * 11) [(6, .string t), (7, .bool b7), (8, .bool b8), (9, .int .i64 a9)] = W3 at *
  have hoth : ∀ k, k < w.heap.size → k ≠ g → W3.heap[k]? = w.heap[k]? := fun k hk hkg => ((o3 k hkg).trans (hb.block k (by omega))).trans (o1 k hkg)
  refine ⟨hO.of_heap fun m hm => hoth m (hO.lt m hm).2 (hne m hm), fun w4 hr hg => ⟨?_, ?_⟩⟩
  · have hs4 := hg.size
    have r4 : NOwns w4 52 11 v (ts.set j ((⟨a0, a1, a2, a3, a4, a5, t, b7, b8, a9, l'⟩ : Dp).row p)) := by
      rw [hv]
      have : NOwns w4 52 11 (.slice (some ⟨g, 0, none⟩) ts.length cap) (ts.set j (rowCs ((⟨a0, a1, a2, a3, a4, a5, d.nm, d.bt, d.ot, d.af, d.bl⟩ : Dp).row p) [(6, .string t), (7, .bool b7), (8, .bool b8), (9, .int .i64 a9)])) := r3.of_heap fun k hk => by
        have e : k = g := by simpa [Value.ownBlock] using hk.symm
        subst e
        exact hg.block k (by omega) (fun e => hne k e.symm rfl)
      exact this
    exact h.turn j hj _ _ r4 ⟨p, rfl, hr⟩ (fun k hk h1 h2 => (hg.block k (by omega) (fun e => h2 (by rw [hd]; exact e.symm))).trans (hoth k hk (fun e => h1 (by rw [hv, e]; rfl)))) (fun k hk => .inl (by rw [hd]; exact hk)) (fun k hk => hk) (fun k hk => hpS k hk)
  · exact ((c1.trans (Chg.of_below hb)).trans c3).trans (Chg.of_grown hg hpS)
end Go.Proofs.YtggjillpfclajaaGreat.Kit
