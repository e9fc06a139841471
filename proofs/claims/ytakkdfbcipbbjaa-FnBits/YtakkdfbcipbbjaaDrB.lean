/- spec.l05Bits by its contract: bits of fifteen or sixteen blocks and eight or nine inodes. -/
import Derived.Test.YtakkdfbcipbbjaaSb
import Derived.Test.YtakkdfbcipbbjaaTxtS
import Derived.Test.YtakkdfbcipbbjaaRdS
namespace Go.Proofs.Ytakkdfbcipbbjaa
open Go.RowKit Kit
/-- What a slice has lies in a block from n on. -/
def Above (n : Nat) (v : Value) : Prop := ∀ k, v.ownBlock = some k → n ≤ k
theorem rfl_set {w : World} {v : Value} {xs : List Bool} {n B j : Nat} (h : RFl w v xs) (ha : Above n v) (hB : B < n) (x : Value) : RFl (w.setCell ⟨B, j, none⟩ x) v xs := by
  obtain ⟨a, cap, rfl, h⟩ := h
  refine ⟨a, cap, rfl, fun k hk => ?_⟩
  obtain ⟨g, off, rfl, hg, hc⟩ := h k hk
  have hge : n ≤ g := ha g rfl
  refine ⟨g, off, rfl, by simpa using hg, ?_⟩
  rw [← hc]
  have e := heap_setCell_other w ⟨B, j, none⟩ g x (by show g ≠ B; omega)
  simp only [World.cell?, e]
theorem Kit.Two.slices {w : World} {base : Nat} {u v : Value} {xs ys : List Bool} (h : Two w base u v xs ys) (h1 : xs.length = 16) (h2 : ys.length = 8) :
    ∃ g1 c1 g2 c2, u = .slice (some ⟨g1, 0, none⟩) 16 c1 ∧ v = .slice (some ⟨g2, 0, none⟩) 8 c2 ∧ 16 ≤ c1 ∧ c1 ≤ maxLen := by
  obtain ⟨g1, c1, e1, -, -, -, -, k1⟩ := h.a.at 0 (by rw [fc_length]; omega)
  obtain ⟨g2, c2, e2, -, -, -, -, k2⟩ := h.b.at 0 (by rw [fc_length]; omega)
  rw [fc_length, h1] at e1 k1
  rw [fc_length, h2] at e2 k2
  have hm : c1 ≤ maxLen := by
    rcases h.a.2 with ⟨h3, -⟩ | ⟨g, cap, cur, h3, -, -, -, h4, -⟩
    · rw [h3] at e1; cases e1
    · rw [e1] at h3; simp only [Value.slice.injEq] at h3; rw [h3.2.2]; exact h4
  exact ⟨g1, c1, g2, c2, e1, e2, k1, hm⟩

theorem Sb.app {w0 w w' w2 : World} {c len cap bx : Nat} {a : Option Addr} {p q u v v' : Value} {xs ys : List Bool} {b : Bool} (h : Sb w0 w w' c a len cap bx p q u v xs ys) (R1 : ROwns w2 (w.heap.size + 1) 4 v' (fc ys ++ [.bool b])) (R2 : Below (w.heap.size + 1) w' w2) (R3 : Keeps w' w2 v v') :
    Sb w0 w w2 c a len cap bx p q u v' xs (ys ++ [b]) := by
  have k1 := R3 bx h.var.lt (fun e => h.hn bx (.inr e) rfl)
  refine ⟨h.res.below R2 (by omega), k1.2.trans h.var, app_second h.two R1 R3, h.dr.above h.hc (by have := h.dr.1.1; have := h.hc; omega) (R2.mono (by omega)), h.hx, fun k hk => ?_, h.hc⟩
  rcases hk with hk | hk
  · exact h.hn k (.inl hk)
  · intro e
    subst e
    exact k1.1 hk

set_option maxRecDepth 100000 in
set_option maxHeartbeats 3200000 in
theorem bits_any (w0 w : World) (c : Nat) (a : Option Addr) (len cap : Nat) (hcode : CodeIs w0 a len) (hlen : len ≤ 1048576) (hcur : Cur 60 w0 w c a len cap) (hcw : c < w.heap.size) :
    Calls Try.prog 27 #[.pointer (some ⟨c, 0, none⟩)] w fun e w' => ∃ (u v : Value) (xs ys : List Bool), e = .returned (.agg #[u, v]) ∧ RFl w' u xs ∧ RFl w' v ys ∧ (Above w.heap.size u ∧ Above w.heap.size v) ∧ xs.length ≤ 16 ∧ ys.length ≤ 9 ∧ Drew w0 w w' c a len cap := by
  have HC := hide hcur
  have HO := hide hcode
  clear hcur hcode
  go_enter Try.func27, Try.ntmps27
  go_wp2_with fail
  refine (specNew_any _).mono ?_
  rintro e w1 ⟨u, v, rfl, O1, B1⟩
  obtain ⟨g1, c1, g2, c2, rfl, rfl, hc1, hc2⟩ := Kit.Two.slices O1 rfl rfl
  have d1 : Drew w0 w w1 c a len cap := ((Drew.refl HC.out).alloc hcw _).below hcw B1
  have r1 : AtP 26 w1 w.heap.size (.slice none 0 0) (.slice none 0 0) := (AtP.new 26 w _ _).below B1 (by simp)
  have O2 := O1.base_le (base' := w.heap.size + 1) (by simp)
  have lw := r1.lt
  obtain ⟨bx, hbx⟩ : ∃ bx, w1.heap.size = bx := ⟨_, rfl⟩
  have s1 : Sb w0 w (w1.alloc (.cells #[.slice (some ⟨g1, 0, none⟩) 16 c1, .slice (some ⟨g2, 0, none⟩) 8 c2] 26)) c a len cap bx (.slice (some ⟨g1, 0, none⟩) 16 c1) (.slice (some ⟨g2, 0, none⟩) 8 c2) (.slice (some ⟨g1, 0, none⟩) 16 c1) (.slice (some ⟨g2, 0, none⟩) 8 c2) newX newY := by
    rw [← hbx]
    refine ⟨r1.alloc _, AtP.new 26 w1 _ _, O2.alloc _, d1.alloc hcw _, lw, fun k hk => ?_, hcw⟩
    rcases hk with hk | hk
    · have := (O1.a.lt k hk).2; omega
    · have := (O1.b.lt k hk).2; omega
  obtain ⟨W1, hW1⟩ : ∃ W1, w1.alloc (.cells #[.slice (some ⟨g1, 0, none⟩) 16 c1, .slice (some ⟨g2, 0, none⟩) 8 c2] 26) = W1 := ⟨_, rfl⟩
  rw [hW1] at s1
  have HS1 := hide s1
  have HX : Hid (newX.length = 16 ∧ newY.length = 8) := ⟨rfl, rfl⟩
  generalize newX = X0 at *
  generalize newY = Y0 at *
  clear O1 O2 B1 d1 r1 s1
  go_wp2
  clear hbx hW1 lw
  go_loopw [4] (fun i wr => ∃ (j : Nat) (xs : List Bool), j ≤ 16 ∧ i = .int .i64 j ∧ xs.length = 16 ∧ Sb w0 w wr c a len cap bx (.slice (some ⟨g1, 0, none⟩) 16 c1) (.slice (some ⟨g2, 0, none⟩) 8 c2) (.slice (some ⟨g1, 0, none⟩) 16 c1) (.slice (some ⟨g2, 0, none⟩) 8 c2) xs Y0) (fun i _ => 16 - (intOf i).toNat)
  case atStart => exact ⟨0, _, by omega, rfl, HX.out.1, HS1.out⟩
  case round =>
    obtain ⟨j, xs, hj, rfl, hl, hS⟩ := hrel
    have HL := hide hl
    have HS := hide hS
    obtain ⟨v0, v1, -, -, vl⟩ := hS.cells
    clear hl hS HS1
    by_cases hlt : j < 16
    · have j0 : (0 : Int) ≤ (j : Int) := by omega
      have j1 : (j : Int) < 16 := by omega
      go_wp2
      go_region_held3 (fun w' => w'.cell? ⟨bx, 0, none⟩ = some (.slice (some ⟨g1, 0, none⟩) 16 c1)) (first | exact v0 | exact (HS.out.drew.drews D5).cells.1 | exact ((HS.out.drew.drews D5).setX HL.out j t).cells.1) ((go_at_call 34; refine (once_any w0 _ c a len cap 2 HO.out hlen HS.out.drew.dr.cur (by decide) (by decide)).mono ?_; rintro e w5 ⟨z5, rfl, D5⟩; obtain ⟨t, ht⟩ : ∃ t, (z5 == 0) = t := ⟨_, rfl⟩; rw [ht]; obtain ⟨k0, k1, k2⟩ := (HS.out.drew.drews D5).atX j (by rw [HL.out]; exact hlt)))
      have HS5 := hide ((HS.out.drew.drews D5).setX HL.out j t)
      clear D5 k0 k1 k2 HS ht
      go_wp2
      go_roundw
      case rel => exact ⟨j + 1, _, by omega, by go_num, by rw [List.length_set]; exact HL.out, HS5.out⟩
      case measure => simp [intOf]; omega
    · have j1 : ¬ (j : Int) < 16 := by omega
      clear hlt hj
      go_wp2
      go_loopw [5] (fun i wr => ∃ (j : Nat) (ys : List Bool), j ≤ 8 ∧ i = .int .i64 j ∧ ys.length = 8 ∧ Sb w0 w wr c a len cap bx (.slice (some ⟨g1, 0, none⟩) 16 c1) (.slice (some ⟨g2, 0, none⟩) 8 c2) (.slice (some ⟨g1, 0, none⟩) 16 c1) (.slice (some ⟨g2, 0, none⟩) 8 c2) xs ys) (fun i _ => 8 - (intOf i).toNat)
      case atStart => exact ⟨0, _, by omega, rfl, HX.out.2, HS.out⟩
      case round =>
        obtain ⟨j, ys, hj, rfl, hl, hS⟩ := hrel
        have HL2 := hide hl
        clear HS v0 v1 vl
        have HS := hide hS
        obtain ⟨v0, v1, -, -, vl⟩ := hS.cells
        clear hl hS
        by_cases hlt : j < 8
        · have j0 : (0 : Int) ≤ (j : Int) := by omega
          have j1 : (j : Int) < 8 := by omega
          go_wp2
          go_region_held3 (fun w' => w'.cell? ⟨bx, 1, none⟩ = some (.slice (some ⟨g2, 0, none⟩) 8 c2)) (first | exact v1 | exact (HS.out.drew.drews D5).cells.2.1 | exact ((HS.out.drew.drews D5).setY HL2.out j t).cells.2.1) ((go_at_call 34; refine (once_any w0 _ c a len cap 2 HO.out hlen HS.out.drew.dr.cur (by decide) (by decide)).mono ?_; rintro e w5 ⟨z5, rfl, D5⟩; obtain ⟨t, ht⟩ : ∃ t, (z5 == 0) = t := ⟨_, rfl⟩; rw [ht]; obtain ⟨k0, k1, k2⟩ := (HS.out.drew.drews D5).atY j (by rw [HL2.out]; exact hlt)))
          have HS5 := hide ((HS.out.drew.drews D5).setY HL2.out j t)
          clear D5 k0 k1 k2 HS ht
          go_wp2
          go_roundw
          case rel => exact ⟨j + 1, _, by omega, by go_num, by rw [List.length_set]; exact HL2.out, HS5.out⟩
          case measure => simp [intOf]; omega
        · have j1 : ¬ (j : Int) < 8 := by omega
          clear hlt hj
          go_wp2_with fail
          refine (once_any w0 _ c a len cap 10 HO.out hlen HS.out.dr.cur (by decide) (by decide)).mono ?_
          rintro e w6 ⟨z6, rfl, D6⟩
          obtain ⟨t6, ht6⟩ : ∃ t, (z6 == 0) = t := ⟨_, rfl⟩
          rw [ht6]
          have H6 := hide (HS.out.drews D6)
          clear D6 ht6 HS v0 v1 vl
          cases t6 with
          | true =>
            obtain ⟨v0, v1, b0, b1, vl⟩ := H6.out.cells
            have i1 : (1 : Int) ≤ (c1 : Int) := by omega
            have i2 : (16 : Int) ≤ (c1 : Int) := by omega
            have i3 : c1 ≤ 9223372036854775807 := hc2
            have i4 : ¬ c1 = 1 := by omega
            have H7 := hide (H6.out.setP (.slice (some ⟨g1, 1, none⟩) 15 (c1 - 1)))
            clear H6
            obtain ⟨w7, hw7⟩ : ∃ w7, w6.setCell ⟨bx, 0, none⟩ (.slice (some ⟨g1, 1, none⟩) 15 (c1 - 1)) = w7 := ⟨_, rfl⟩
            rw [hw7] at H7
            go_wp2_with fail
            refine (once_any w0 _ c a len cap 10 HO.out hlen H7.out.dr.cur (by decide) (by decide)).mono ?_
            rintro e w8 ⟨z8, rfl, D8⟩
            obtain ⟨t8, ht8⟩ : ∃ t, (z8 == 0) = t := ⟨_, rfl⟩
            rw [ht8]
            have H8 := hide (H7.out.drews D8)
            clear D8 ht8 H7
            cases t8 with
            | true =>
              obtain ⟨v0, v1, b0, b1, vl⟩ := H8.out.cells
              have hown := H8.out.two.b
              have lp : (fc ys).length ≤ 1000000000000 := by rw [fc_length]; have := HL2.out; omega
              go_wp2_with (at_builtin; refine wpList_append_cell w8 w8 rfl _ _ 24 rfl (w.heap.size + 1) 4 Try.u24 (.bool false) 1 Try.i4 rfl (by decide) _ (fc ys) (by rfl) hown (Below.refl _ _) (by have := H8.out.res.lt; omega) (.bool true) rfl (by rfl) lp ?_; intro v' w9 R1 R2 R3; obtain ⟨b9, f9, hv', -⟩ := R1.form; generalize (fc ys ++ [Value.bool true]).length = n9 at hv'; subst hv'; have H9 := hide (H8.out.app R1 R2 R3); obtain ⟨y0, y1, y2, y3, y4⟩ := H9.out.cells; obtain ⟨q0, q1⟩ := H9.out.res.cells; obtain ⟨f0, f1⟩ := H9.out.res.frozen; have m0 := H9.out.res.lt; have x1 := H9.out.hx; have x2 := Nat.ne_of_gt x1; have x3 := Nat.ne_of_lt x1; clear R1 R2 R3)
              have H10 := hide (H9.out.setQ (.slice b9 n9 f9))
              clear H8 H9 hown
              have HE := hide (fun (x y : Value) => And.intro ((H10.out.two.set_other (b := w.heap.size) (j := 0) (by omega) x).set_other (b := w.heap.size) (j := 1) (by omega) y) ((H10.out.dr.setCell hcw (B := w.heap.size) (j := 0) (Nat.le_refl _) x).setCell hcw (B := w.heap.size) (j := 1) (Nat.le_refl _) y))
              clear H10
              refine bodyPost_ret (v := .agg #[(.slice (some ⟨g1, 1, none⟩) 15 (c1 - 1)), (.slice b9 n9 f9)]) (by simp [results, go_sem, q0, q1]) rfl ⟨_, _, xs.drop 1, ys ++ [true], rfl, rfl_drop (c' := c1 - 1) (k := 1) (HE.out _ _).1.a.rfl (by decide), (HE.out _ _).1.b.rfl, ⟨fun k hk => Nat.le_of_succ_le ((HE.out (.bool true) (.bool true)).1.a.lt k hk).1, fun k hk => Nat.le_of_succ_le ((HE.out (.bool true) (.bool true)).1.b.lt k hk).1⟩, by rw [List.length_drop]; have := HL.out; omega, by rw [List.length_append, List.length_singleton]; have := HL2.out; omega, (HE.out _ _).2⟩
            | false =>
              obtain ⟨p0, p1, z0, z1, pl⟩ := H8.out.cells
              obtain ⟨q0, q1⟩ := H8.out.res.cells
              obtain ⟨f0, f1⟩ := H8.out.res.frozen
              have m0 := H8.out.res.lt
              have HE := hide (fun (x y : Value) => And.intro ((H8.out.two.set_other (b := w.heap.size) (j := 0) (by omega) x).set_other (b := w.heap.size) (j := 1) (by omega) y) ((H8.out.dr.setCell hcw (B := w.heap.size) (j := 0) (Nat.le_refl _) x).setCell hcw (B := w.heap.size) (j := 1) (Nat.le_refl _) y))
              clear H8
              go_wp2
              refine bodyPost_ret (v := .agg #[(.slice (some ⟨g1, 1, none⟩) 15 (c1 - 1)), (.slice (some ⟨g2, 0, none⟩) 8 c2)]) (by simp [results, go_sem, q0, q1]) rfl ⟨_, _, xs.drop 1, ys, rfl, rfl_drop (c' := c1 - 1) (k := 1) (HE.out _ _).1.a.rfl (by decide), (HE.out _ _).1.b.rfl, ⟨fun k hk => Nat.le_of_succ_le ((HE.out (.bool true) (.bool true)).1.a.lt k hk).1, fun k hk => Nat.le_of_succ_le ((HE.out (.bool true) (.bool true)).1.b.lt k hk).1⟩, by rw [List.length_drop]; have := HL.out; omega, by have := HL2.out; omega, (HE.out _ _).2⟩
          | false =>
            have H7 := H6
            clear H6
            go_wp2_with fail
            refine (once_any w0 _ c a len cap 10 HO.out hlen H7.out.dr.cur (by decide) (by decide)).mono ?_
            rintro e w8 ⟨z8, rfl, D8⟩
            obtain ⟨t8, ht8⟩ : ∃ t, (z8 == 0) = t := ⟨_, rfl⟩
            rw [ht8]
            have H8 := hide (H7.out.drews D8)
            clear D8 ht8 H7
            cases t8 with
            | true =>
              obtain ⟨v0, v1, b0, b1, vl⟩ := H8.out.cells
              have hown := H8.out.two.b
              have lp : (fc ys).length ≤ 1000000000000 := by rw [fc_length]; have := HL2.out; omega
              go_wp2_with (at_builtin; refine wpList_append_cell w8 w8 rfl _ _ 24 rfl (w.heap.size + 1) 4 Try.u24 (.bool false) 1 Try.i4 rfl (by decide) _ (fc ys) (by rfl) hown (Below.refl _ _) (by have := H8.out.res.lt; omega) (.bool true) rfl (by rfl) lp ?_; intro v' w9 R1 R2 R3; obtain ⟨b9, f9, hv', -⟩ := R1.form; generalize (fc ys ++ [Value.bool true]).length = n9 at hv'; subst hv'; have H9 := hide (H8.out.app R1 R2 R3); obtain ⟨y0, y1, y2, y3, y4⟩ := H9.out.cells; obtain ⟨q0, q1⟩ := H9.out.res.cells; obtain ⟨f0, f1⟩ := H9.out.res.frozen; have m0 := H9.out.res.lt; have x1 := H9.out.hx; have x2 := Nat.ne_of_gt x1; have x3 := Nat.ne_of_lt x1; clear R1 R2 R3)
              have H10 := hide (H9.out.setQ (.slice b9 n9 f9))
              clear H8 H9 hown
              have HE := hide (fun (x y : Value) => And.intro ((H10.out.two.set_other (b := w.heap.size) (j := 0) (by omega) x).set_other (b := w.heap.size) (j := 1) (by omega) y) ((H10.out.dr.setCell hcw (B := w.heap.size) (j := 0) (Nat.le_refl _) x).setCell hcw (B := w.heap.size) (j := 1) (Nat.le_refl _) y))
              clear H10
              refine bodyPost_ret (v := .agg #[(.slice (some ⟨g1, 0, none⟩) 16 c1), (.slice b9 n9 f9)]) (by simp [results, go_sem, q0, q1]) rfl ⟨_, _, xs, ys ++ [true], rfl, (HE.out _ _).1.a.rfl, (HE.out _ _).1.b.rfl, ⟨fun k hk => Nat.le_of_succ_le ((HE.out (.bool true) (.bool true)).1.a.lt k hk).1, fun k hk => Nat.le_of_succ_le ((HE.out (.bool true) (.bool true)).1.b.lt k hk).1⟩, by have := HL.out; omega, by rw [List.length_append, List.length_singleton]; have := HL2.out; omega, (HE.out _ _).2⟩
            | false =>
              obtain ⟨p0, p1, z0, z1, pl⟩ := H8.out.cells
              obtain ⟨q0, q1⟩ := H8.out.res.cells
              obtain ⟨f0, f1⟩ := H8.out.res.frozen
              have m0 := H8.out.res.lt
              have HE := hide (fun (x y : Value) => And.intro ((H8.out.two.set_other (b := w.heap.size) (j := 0) (by omega) x).set_other (b := w.heap.size) (j := 1) (by omega) y) ((H8.out.dr.setCell hcw (B := w.heap.size) (j := 0) (Nat.le_refl _) x).setCell hcw (B := w.heap.size) (j := 1) (Nat.le_refl _) y))
              clear H8
              go_wp2
              refine bodyPost_ret (v := .agg #[(.slice (some ⟨g1, 0, none⟩) 16 c1), (.slice (some ⟨g2, 0, none⟩) 8 c2)]) (by simp [results, go_sem, q0, q1]) rfl ⟨_, _, xs, ys, rfl, (HE.out _ _).1.a.rfl, (HE.out _ _).1.b.rfl, ⟨fun k hk => Nat.le_of_succ_le ((HE.out (.bool true) (.bool true)).1.a.lt k hk).1, fun k hk => Nat.le_of_succ_le ((HE.out (.bool true) (.bool true)).1.b.lt k hk).1⟩, by have := HL.out; omega, by have := HL2.out; omega, (HE.out _ _).2⟩
end Go.Proofs.Ytakkdfbcipbbjaa
