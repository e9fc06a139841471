/- spec.l04Any by its contract. -/
import Derived.Test.YtfffiboggpjjkaaAny
namespace Go.Proofs.Ytfffiboggpjjkaa
open Go.RowKit Kit
theorem mild_once {xs : List Sl} (h : Once xs) : Mild ⟨#[]⟩ xs := ⟨by decide, .inr h.1, fun i hi => by
  by_cases hz : xs[i].1.size = 0
  · omega
  · have := (five_size _ (h.2 i hi hz).1).2; omega⟩
theorem copy_any (d : Bool) (v : Value) (t : ByteArray) (xs : List Sl) (base : Nat) (w : World) (ho : SOwns w base 36 v xs) (h : (d = false ∧ xs = [] ∧ v = .slice none 0 0 ∧ t.size ≤ 16) ∨ (d = true ∧ Once xs ∧ t = ⟨#[]⟩)) :
    Calls Try.prog 52 #[.agg #[.bool d, v, .string t]] w fun e w' => ∃ v, e = .returned (.agg #[.bool d, v, .string t]) ∧ SOwns w' w.heap.size 36 v xs ∧ Mild t xs ∧ Below w.heap.size w w' := by
  rcases h with ⟨rfl, rfl, rfl, ht⟩ | ⟨rfl, h1, rfl⟩
  · refine (copy_text t w).mono ?_
    rintro e w1 ⟨v, rfl, O, B⟩
    exact ⟨v, rfl, O, ⟨by omega, .inl rfl, fun i hi => absurd hi (Nat.not_lt_zero _)⟩, B⟩
  · refine (copy_dir v ⟨#[]⟩ xs base w ho h1.1).mono ?_
    rintro e w1 ⟨v, rfl, O, B⟩
    exact ⟨v, rfl, O, mild_once h1, B⟩
def four : List ByteArray := [⟨#[]⟩, ⟨#[65]⟩, ⟨#[97]⟩, ⟨#[97, 98, 99, 100, 101, 102, 103]⟩]
theorem four_size : ∀ n ∈ four, n.size ≤ 7 := by decide
set_option maxRecDepth 100000 in
set_option maxHeartbeats 3200000 in
theorem any_any (w0 w : World) (c : Nat) (a : Option Addr) (len cap : Nat) (hcode : CodeIs w0 a len) (hlen : len ≤ 1048576) (hcur : Cur 78 w0 w c a len cap) (hcw : c < w.heap.size) :
    Calls Try.prog 33 #[.pointer (some ⟨c, 0, none⟩)] w fun e w' => ∃ (d : Bool) (v : Value) (t : ByteArray) (xs : List Sl), e = .returned (.agg #[.bool d, v, .string t]) ∧ SOwns w' w.heap.size 36 v xs ∧ Mild t xs ∧ Drew w0 w w' c a len cap := by
  have HC := hide hcur
  have HO := hide hcode
  clear hcur hcode
  go_enter Try.func33, Try.ntmps33
  go_wp2_with fail
  refine (block4_any w0 _ c a len cap HO.out hlen (cur_alloc HC.out hcw _) (by simp; omega)).mono ?_
  rintro e w1 ⟨d, v, t, xs, rfl, O1, hk, D1⟩
  have d1 : Drew w0 w w1 c a len cap := ((Drew.refl HC.out).alloc hcw _).trans D1
  have r1 : AtC w1 w.heap.size 26 #[.bool false, .slice none 0 0, .string ⟨#[]⟩] := (AtC.new w 26 _).grown D1.2 (by simp; omega)
  have s1 : w.heap.size < w1.heap.size := r1.lt
  obtain ⟨va, vc, rfl, -⟩ := O1.form
  have H1 := hide (And.intro d1 (And.intro r1 (And.intro O1 hk)))
  clear D1 d1 r1 O1 hk
  go_wp2_with fail
  refine (copy_any d _ t xs _ w1 H1.out.2.2.1 H1.out.2.2.2).mono ?_
  rintro e w2 ⟨v2, rfl, O2, M2, B2⟩
  obtain ⟨vb, vd, rfl, -⟩ := O2.form
  have hs2 : w1.heap.size ≤ w2.heap.size := B2.size
  have st : Sa w0 w (w2.alloc (.cells #[.bool d, .slice vb xs.length vd, .string t] 26)) c a len cap w2.heap.size d (.slice vb xs.length vd) t xs :=
    ⟨(H1.out.2.1.over B2).alloc _, AtC.new w2 26 _, (O2.base_le (by omega)).alloc _, (H1.out.1.below hcw B2).alloc hcw _, by omega, fun e => by have := (O2.lt _ e).2; omega, hcw, M2⟩
  have HS := hide st
  obtain ⟨V, hV⟩ : ∃ V, w2.heap.size = V := ⟨_, rfl⟩
  rw [hV] at HS
  have hwV : w.heap.size < V := by omega
  clear st O2 M2 B2 H1
  go_wp2_with fail
  refine (below_any w0 _ c a len cap 12 HO.out hlen HS.out.dr.cur (by decide) (by decide)).mono ?_
  rintro e w3 ⟨n, hn, rfl, D3⟩
  have H3 := hide (HS.out.drews D3)
  obtain ⟨q0, q1, q2, ql⟩ := H3.out.res.three
  obtain ⟨f0, f1, f2⟩ := H3.out.res.frz
  obtain ⟨v0, v1, v2, vl⟩ := H3.out.var.three
  obtain ⟨g0, g1, g2⟩ := H3.out.var.frz
  have hne : ¬ V = w.heap.size := by omega
  clear D3 HS hV
  by_cases n0 : n = 0
  · subst n0
    have HF := hide ((H3.out.setDir (!d)).fin (.bool (!d)) (.slice vb xs.length vd) (.string t))
    go_wp2
    refine bodyPost_ret (v := .agg #[.bool (!d), .slice vb xs.length vd, .string t]) (by simp [results, go_sem, q0, q1, q2]) rfl ⟨!d, _, t, xs, rfl, HF.out.1, HF.out.2.1, HF.out.2.2⟩
  by_cases n1 : n = 1
  · subst n1
    go_wp2_with fail
    refine (below_any w0 w3 c a len cap 2 HO.out hlen H3.out.dr.cur (by decide) (by decide)).mono ?_
    rintro e w4 ⟨k, hk, rfl, D4⟩
    have H4 := hide (H3.out.drews D4)
    clear D4 q0 q1 q2 f0 f1 f2 v0 v1 v2 g0 g1 g2
    go_wp2_with fail
    rw [show (16 : Int) + (k : Int) = ((16 + k : Nat) : Int) from by omega]
    refine (long_any (16 + k) 65 w4 (by omega) (by decide)).mono ?_
    rintro e w5 ⟨l, hl, rfl, B5⟩
    obtain ⟨t5, ht⟩ : ∃ t : ByteArray, (⟨l.toArray⟩ : ByteArray) = t := ⟨_, rfl⟩
    have htz : t5.size ≤ 17 := by rw [← ht]; simp [ByteArray.size]; omega
    rw [ht]
    have H5 := hide (H4.out.over B5)
    obtain ⟨q0, q1, q2, ql⟩ := H5.out.res.three
    obtain ⟨f0, f1, f2⟩ := H5.out.res.frz
    obtain ⟨v0, v1, v2, vl⟩ := H5.out.var.three
    obtain ⟨g0, g1, g2⟩ := H5.out.var.frz
    have HF := hide ((H5.out.setText t5 htz).fin (.bool d) (.slice vb xs.length vd) (.string t5))
    clear B5 ht hl htz
    go_wp2
    refine bodyPost_ret (v := .agg #[.bool d, .slice vb xs.length vd, .string t5]) (by simp [results, go_sem, q0, q1, q2]) rfl ⟨d, _, t5, xs, rfl, HF.out.1, HF.out.2.1, HF.out.2.2⟩
  by_cases hbig : (n = 2 ∨ n = 3) ∧ xs.length = 4
  · obtain ⟨h23, hl4⟩ := hbig
    obtain ⟨g, c4, e1, -, -, kf, hg1, hg2, -⟩ := H3.out.own.at 0 (by omega)
    simp only [Value.slice.injEq] at e1
    obtain ⟨rfl, -, rfl⟩ := e1
    have HL4 := hide hl4
    rcases h23 with rfl | rfl
    · have S6 : ∀ w', Drew w0 (w3.alloc (.cells #[.int .i64 (-1), .int .i64 0, .int .i64 8, .int .i64 9] 3)).drew w' c a len cap → Sa w0 w w' c a len cap V d (.slice (some ⟨g, 0, none⟩) xs.length vd) t xs := fun w' D => ((H3.out.alloc _).drew).drews D
      have HS6 : Hid (∀ w', Drew w0 (w3.alloc (.cells #[.int .i64 (-1), .int .i64 0, .int .i64 8, .int .i64 9] 3)).drew w' c a len cap → w'.cell? ⟨V, 1, none⟩ = some (.slice (some ⟨g, 0, none⟩) xs.length vd) ∧ w'.cell? ⟨g, 2, none⟩ = some (.string (xs[1]'(by rw [HL4.out]; decide)).1) ∧ w'.cell? ⟨g, 3, none⟩ = some (.int .i64 (xs[1]'(by rw [HL4.out]; decide)).2) ∧ (∀ j, w'.frozen? ⟨g, j, none⟩ = false) ∧ ∀ z : Int, ∃ ys, Sa w0 w (w'.setCell ⟨g, 3, none⟩ (.int .i64 z)) c a len cap V d (.slice (some ⟨g, 0, none⟩) xs.length vd) t ys) := fun w' D => by
        have A6 := S6 w' D
        obtain ⟨g9, c9, e9, k1, k2, k3, k4, k5, -⟩ := A6.own.at 1 (by rw [HL4.out]; decide)
        simp only [Value.slice.injEq, Option.some.injEq, Addr.mk.injEq] at e9
        obtain ⟨⟨rfl, -, -⟩, -, rfl⟩ := e9
        exact ⟨A6.var.three.2.1, k1, k2, k3, fun z => ⟨_, A6.setIno (j := 1) (by rw [HL4.out]; decide) z⟩⟩
      have HW := hide (show Cur 78 w0 (w3.alloc (.cells #[.int .i64 (-1), .int .i64 0, .int .i64 8, .int .i64 9] 3)).drew c a len cap from ((H3.out.alloc _).drew).dr.cur)
      have HL := hide (show AtC (w3.alloc (.cells #[.int .i64 (-1), .int .i64 0, .int .i64 8, .int .i64 9] 3)).drew w3.heap.size 3 (([-1, 0, 8, 9] : List Int).map (Value.int .i64)).toArray from (AtC.new w3 3 _).drew)
      have hcl : ¬ c = w3.heap.size := by have := H3.out.res.lt; omega
      have vA : (w3.alloc (.cells #[.int .i64 (-1), .int .i64 0, .int .i64 8, .int .i64 9] 3)).cell? ⟨V, 1, none⟩ = some (.slice (some ⟨g, 0, none⟩) xs.length vd) := (H3.out.alloc _).var.three.2.1
      have hx1 : (1 : Int) < (xs.length : Int) := by omega
      have hx0 : (0 : Int) < (xs.length : Int) := by omega
      clear S6 hl4 kf
      go_wp2_with fail
      go_region_held3 (fun w' => w'.cell? ⟨V, 1, none⟩ = some (.slice (some ⟨g, 0, none⟩) xs.length vd)) (first | exact v1 | exact vA | exact v6 | exact v7) ((go_at_call 55; refine (pickI_any w0 _ c w3.heap.size a len cap [-1, 0, 8, 9] HO.out hlen HW.out HL.out hcl (by decide) (by decide)).mono ?_; rintro e w6 ⟨z, rfl, D6⟩; obtain ⟨v6, k1, k2, k3, kk⟩ := HS6.out w6 D6; obtain ⟨ys, A7⟩ := kk z; have v7 := A7.var.three.2.1; have HA7 := hide A7; clear A7 D6 kk))
      obtain ⟨q0, q1, q2, ql⟩ := HA7.out.res.three
      obtain ⟨f0, f1, f2⟩ := HA7.out.res.frz
      obtain ⟨v0, v1, v2, vl⟩ := HA7.out.var.three
      have HF := hide (HA7.out.fin (.bool d) (.slice (some ⟨g, 0, none⟩) xs.length vd) (.string t))
      clear v6 v7 vA k1 k2 k3
      go_wp2
      refine bodyPost_ret (v := .agg #[.bool d, .slice (some ⟨g, 0, none⟩) xs.length vd, .string t]) (by simp [results, go_sem, q0, q1, q2]) rfl ⟨d, _, t, _, rfl, HF.out.1, HF.out.2.1, HF.out.2.2⟩
    · have S6 : ∀ w', Drew w0 (w3.alloc (.cells #[.string ⟨#[]⟩, .string ⟨#[65]⟩, .string ⟨#[97]⟩, .string ⟨#[97, 98, 99, 100, 101, 102, 103]⟩] 9)).drew w' c a len cap → Sa w0 w w' c a len cap V d (.slice (some ⟨g, 0, none⟩) xs.length vd) t xs := fun w' D => ((H3.out.alloc _).drew).drews D
      have HS6 : Hid (∀ w', Drew w0 (w3.alloc (.cells #[.string ⟨#[]⟩, .string ⟨#[65]⟩, .string ⟨#[97]⟩, .string ⟨#[97, 98, 99, 100, 101, 102, 103]⟩] 9)).drew w' c a len cap → w'.cell? ⟨V, 1, none⟩ = some (.slice (some ⟨g, 0, none⟩) xs.length vd) ∧ w'.cell? ⟨g, 0, none⟩ = some (.string (xs[0]'(by rw [HL4.out]; decide)).1) ∧ w'.cell? ⟨g, 1, none⟩ = some (.int .i64 (xs[0]'(by rw [HL4.out]; decide)).2) ∧ (∀ j, w'.frozen? ⟨g, j, none⟩ = false) ∧ ∀ z : ByteArray, z ∈ four → ∃ ys, Sa w0 w (w'.setCell ⟨g, 0, none⟩ (.string z)) c a len cap V d (.slice (some ⟨g, 0, none⟩) xs.length vd) t ys) := fun w' D => by
        have A6 := S6 w' D
        obtain ⟨g9, c9, e9, k1, k2, k3, k4, k5, -⟩ := A6.own.at 0 (by rw [HL4.out]; decide)
        simp only [Value.slice.injEq, Option.some.injEq, Addr.mk.injEq] at e9
        obtain ⟨⟨rfl, -, -⟩, -, rfl⟩ := e9
        exact ⟨A6.var.three.2.1, k1, k2, k3, fun z hz => ⟨_, A6.setName (j := 0) (by rw [HL4.out]; decide) z (four_size z hz)⟩⟩
      have HW := hide (show Cur 78 w0 (w3.alloc (.cells #[.string ⟨#[]⟩, .string ⟨#[65]⟩, .string ⟨#[97]⟩, .string ⟨#[97, 98, 99, 100, 101, 102, 103]⟩] 9)).drew c a len cap from ((H3.out.alloc _).drew).dr.cur)
      have HL := hide (show AtC (w3.alloc (.cells #[.string ⟨#[]⟩, .string ⟨#[65]⟩, .string ⟨#[97]⟩, .string ⟨#[97, 98, 99, 100, 101, 102, 103]⟩] 9)).drew w3.heap.size 9 (four.map Value.string).toArray from (AtC.new w3 9 _).drew)
      have hcl : ¬ c = w3.heap.size := by have := H3.out.res.lt; omega
      have vA : (w3.alloc (.cells #[.string ⟨#[]⟩, .string ⟨#[65]⟩, .string ⟨#[97]⟩, .string ⟨#[97, 98, 99, 100, 101, 102, 103]⟩] 9)).cell? ⟨V, 1, none⟩ = some (.slice (some ⟨g, 0, none⟩) xs.length vd) := (H3.out.alloc _).var.three.2.1
      have hx1 : (1 : Int) < (xs.length : Int) := by omega
      have hx0 : (0 : Int) < (xs.length : Int) := by omega
      clear S6 hl4 kf
      go_wp2_with fail
      go_region_held3 (fun w' => w'.cell? ⟨V, 1, none⟩ = some (.slice (some ⟨g, 0, none⟩) xs.length vd)) (first | exact v1 | exact vA | exact v6 | exact v7) ((go_at_call 45; refine (pickS_any w0 _ c w3.heap.size a len cap four HO.out hlen HW.out HL.out hcl (by decide) (by decide)).mono ?_; rintro e w6 ⟨z, hz, rfl, D6⟩; obtain ⟨v6, k1, k2, k3, kk⟩ := HS6.out w6 D6; obtain ⟨ys, A7⟩ := kk z hz; have v7 := A7.var.three.2.1; have HA7 := hide A7; clear A7 D6 kk))
      obtain ⟨q0, q1, q2, ql⟩ := HA7.out.res.three
      obtain ⟨f0, f1, f2⟩ := HA7.out.res.frz
      obtain ⟨v0, v1, v2, vl⟩ := HA7.out.var.three
      have HF := hide (HA7.out.fin (.bool d) (.slice (some ⟨g, 0, none⟩) xs.length vd) (.string t))
      clear v6 v7 vA k1 k2 k3
      go_wp2
      refine bodyPost_ret (v := .agg #[.bool d, .slice (some ⟨g, 0, none⟩) xs.length vd, .string t]) (by simp [results, go_sem, q0, q1, q2]) rfl ⟨d, _, t, _, rfl, HF.out.1, HF.out.2.1, HF.out.2.2⟩
  · have HF := hide (H3.out.fin (.bool d) (.slice vb xs.length vd) (.string t))
    have hno : (n = 2 ∨ n = 3) → xs.length = 0 := fun h => by
      rcases H3.out.mild.2.1 with h1 | h1
      · exact h1
      · exact absurd ⟨h, h1⟩ hbig
    have b0 : ((n : Int) == 0) = false := by simp; omega
    have b1 : ((n : Int) == 1) = false := by simp; omega
    by_cases h23 : n = 2 ∨ n = 3
    · have h0 := hno h23
      obtain rfl : xs = [] := List.length_eq_zero_iff.1 h0
      clear h0 hno hbig
      rcases h23 with rfl | rfl
      all_goals
        go_wp2
        refine bodyPost_ret (v := .agg #[.bool d, .slice vb 0 vd, .string t]) (by simp [results, go_sem, q0, q1, q2]) rfl ⟨d, _, t, [], rfl, HF.out.1, HF.out.2.1, HF.out.2.2⟩
    · have b2 : ((n : Int) == 2) = false := by simp; omega
      have b3 : ((n : Int) == 3) = false := by simp; omega
      clear hno hbig
      go_wp2
      refine bodyPost_ret (v := .agg #[.bool d, .slice vb xs.length vd, .string t]) (by simp [results, go_sem, q0, q1, q2]) rfl ⟨d, _, t, xs, rfl, HF.out.1, HF.out.2.1, HF.out.2.2⟩
end Go.Proofs.Ytfffiboggpjjkaa
