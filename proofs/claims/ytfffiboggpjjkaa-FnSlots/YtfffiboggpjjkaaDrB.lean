/- spec.l01Pick, spec.l04Name, spec.l01PickInt and spec.l04Block by their contracts. -/
import Derived.Test.YtfffiboggpjjkaaDraw
import Derived.Test.YtfffiboggpjjkaaNew
import Derived.Test.YtfffiboggpjjkaaPlace
import Derived.Test.YtfffiboggpjjkaaRdS
namespace Go.Proofs.Ytfffiboggpjjkaa
open Go.RowKit Kit
theorem Drew.refl {w0 w : World} {c len cap : Nat} {a : Option Addr} (h : Cur 78 w0 w c a len cap) : Drew w0 w w c a len cap := ⟨h, grownBy_below (Below.refl _ _) _⟩
theorem Drew.drew {w0 w w' : World} {c len cap : Nat} {a : Option Addr} (h : Drew w0 w w' c a len cap) : Drew w0 w w'.drew c a len cap := ⟨⟨h.1.1, h.1.2.1.drew, h.1.2.2⟩, ⟨h.2.os, h.2.tape, h.2.output, h.2.size, h.2.block⟩⟩
theorem Drew.below {w0 w w' w2 : World} {c len cap : Nat} {a : Option Addr} (h : Drew w0 w w' c a len cap) (hc : c < w.heap.size) (hb : Below w'.heap.size w' w2) : Drew w0 w w2 c a len cap := by
  have h1 := h.1.2.1.size
  have h2 := h.2.size
  refine ⟨⟨h.1.1, h.1.2.1.trans (hb.mono h1), ?_⟩, grownBy_trans h.2 (grownBy_below hb _)⟩
  obtain ⟨i, x, hk, hi⟩ := h.1.2.2
  exact ⟨i, x, by rw [hb.block c (by omega)]; exact hk, hi⟩
theorem Drew.setCell {w0 w w' : World} {c len cap : Nat} {a : Option Addr} (h : Drew w0 w w' c a len cap) (hc : c < w.heap.size) {B j : Nat} (hB : w.heap.size ≤ B) (x : Value) : Drew w0 w (w'.setCell ⟨B, j, none⟩ x) c a len cap := by
  have h1 := h.1.1
  refine ⟨⟨h.1.1, h.1.2.1.setCell (p := ⟨B, j, none⟩) (by show w0.heap.size ≤ B; omega) _, ?_⟩, grownBy_setNew h.2 hB j x⟩
  obtain ⟨i, y, hk, hi⟩ := h.1.2.2
  exact ⟨i, y, (heap_setCell_other w' ⟨B, j, none⟩ c x (by show c ≠ B; omega)).trans hk, hi⟩
theorem pickS_any (w0 w : World) (c g : Nat) (a : Option Addr) (len cap : Nat) (xs : List ByteArray) (hcode : CodeIs w0 a len) (hlen : len ≤ 1048576) (hcur : Cur 78 w0 w c a len cap) (hg : AtC w g 9 (xs.map Value.string).toArray) (hne : c ≠ g) (hx0 : 0 < xs.length) (hx1 : xs.length ≤ 256) :
    Calls Try.prog 45 #[.pointer (some ⟨c, 0, none⟩), .slice (some ⟨g, 0, none⟩) xs.length xs.length] w fun e w' => ∃ z : ByteArray, z ∈ xs ∧ e = .returned (.string z) ∧ Drew w0 w w' c a len cap := by
  have HC := hide hcur
  have HO := hide hcode
  have HG := hide hg
  clear hcur hcode hg
  go_enter Try.func45, Try.ntmps45
  go_wp2_with fail
  refine (below_any w0 w c a len cap xs.length HO.out hlen HC.out hx0 (by omega)).mono ?_
  rintro e w1 ⟨x, hx, rfl, hd⟩
  have HD := hide hd
  obtain ⟨z, hz⟩ : ∃ z, xs[x] = z := ⟨_, rfl⟩
  have hmem : z ∈ xs := by rw [← hz]; exact List.getElem_mem _
  have hcell : w1.cell? ⟨g, x, none⟩ = some (.string z) := by
    rw [(HG.out.grown hd.2 (by simpa using hne)).cell x]
    simp [hx, hz]
  have HM := hide hmem
  clear hd hz hmem
  go_wp2
  go_ret
  exact ⟨z, HM.out, rfl, HD.out⟩
/-- The names that are drawn. -/
def five : List ByteArray := [⟨#[97]⟩, ⟨#[98]⟩, ⟨#[99]⟩, ⟨#[100, 100]⟩, ⟨#[101, 49]⟩]
theorem five_ok : ∀ n ∈ five, nameOk n = true ∧ n ≠ ⟨#[122, 122]⟩ := by decide
theorem name_any (w0 w : World) (c : Nat) (a : Option Addr) (len cap : Nat) (hcode : CodeIs w0 a len) (hlen : len ≤ 1048576) (hcur : Cur 78 w0 w c a len cap) (hcw : c < w.heap.size) :
    Calls Try.prog 44 #[.pointer (some ⟨c, 0, none⟩)] w fun e w' => ∃ z : ByteArray, z ∈ five ∧ e = .returned (.string z) ∧ Drew w0 w w' c a len cap := by
  have HC := hide hcur
  have HO := hide hcode
  clear hcur hcode
  go_enter Try.func44, Try.ntmps44
  go_wp2_with fail
  refine (pickS_any w0 _ c w.heap.size a len cap five HO.out hlen (cur_alloc HC.out hcw _) (AtC.new w 9 _) (by omega) (by decide) (by decide)).mono ?_
  rintro e w1 ⟨z, hz, rfl, D1⟩
  have HD := hide (((Drew.refl HC.out).alloc hcw _).trans D1)
  clear D1
  go_wp2
  go_ret
  exact ⟨z, hz, rfl, HD.out⟩
/-- Names are there once each, and are such as are drawn. -/
def Once (xs : List Sl) : Prop := xs.length = 4 ∧ ∀ (i : Nat) (h : i < xs.length), xs[i].1.size ≠ 0 → xs[i].1 ∈ five ∧ ∀ (k : Nat) (hk : k < xs.length), k ≠ i → xs[k].1 ≠ xs[i].1
theorem plF_neg {name : ByteArray} : ∀ (l : List Sl) (k : Nat), plF name k l < 0 → ∀ s ∈ l, s.1 ≠ name := by
  intro l
  induction l with
  | nil => intro _ _ s hs; simp at hs
  | cons x r ih =>
    intro k h s hs
    rw [plF] at h
    split at h
    · omega
    · rename_i hne
      rcases List.mem_cons.1 hs with rfl | h1
      · exact hne
      · exact ih _ h s h1
theorem once_new : Once noSl := ⟨rfl, fun i h hz => by
  have : noSl[i].1 = ⟨#[]⟩ := by
    match i, h with
    | 0, _ => rfl
    | 1, _ => rfl
    | 2, _ => rfl
    | 3, _ => rfl
  rw [this] at hz
  exact absurd rfl hz⟩
theorem once_set {xs : List Sl} {j : Nat} {n : ByteArray} {z : Int} (h : Once xs) (hn : n ∈ five) (hp : placeR xs n < 0) (hz : n.size ≠ 0) : Once (xs.set j (n, z)) := by
  have hne := plF_neg xs 0 (by rw [placeR, if_neg hz] at hp; exact hp)
  refine ⟨by simp [h.1], fun i hi hs => ?_⟩
  rw [List.length_set] at hi
  by_cases hij : j = i
  · subst hij
    rw [List.getElem_set_self] at hs ⊢
    refine ⟨hn, fun k hk hki => ?_⟩
    rw [List.getElem_set_ne (fun e => hki e.symm)]
    exact hne _ (List.getElem_mem _)
  · rw [List.getElem_set_ne hij] at hs ⊢
    obtain ⟨h1, h2⟩ := h.2 i hi hs
    refine ⟨h1, fun k hk hki => ?_⟩
    by_cases hjk : j = k
    · subst hjk
      rw [List.getElem_set_self]
      exact fun e => hne _ (List.getElem_mem hi) e.symm
    · rw [List.getElem_set_ne hjk]
      exact h2 k (by simpa using hk) hki
/-- While a block is drawn: the result, the block's variable V, its slots' block g, the cursor. -/
structure Sb (w0 w w' : World) (c : Nat) (a : Option Addr) (len cap : Nat) (V g c4 : Nat) (xs : List Sl) : Prop where
  res : AtC w' w.heap.size 26 #[.bool false, .slice none 0 0, .string ⟨#[]⟩]
  var : AtC w' V 26 #[.bool true, .slice (some ⟨g, 0, none⟩) 4 c4, .string ⟨#[]⟩]
  own : SOwns w' (w.heap.size + 1) 36 (.slice (some ⟨g, 0, none⟩) 4 c4) xs
  dr : Drew w0 w w' c a len cap
  hv : w.heap.size < V
  hgv : g < V
  hc : c < w.heap.size
  once : Once xs
namespace Sb
variable {w0 w w' : World} {c len cap V g c4 : Nat} {a : Option Addr} {xs : List Sl}
theorem hg (h : Sb w0 w w' c a len cap V g c4 xs) : w.heap.size < g := (h.own.lt g rfl).1
theorem drews (h : Sb w0 w w' c a len cap V g c4 xs) {w2 : World} (hd : Drew w0 w' w2 c a len cap) : Sb w0 w w2 c a len cap V g c4 xs := by
  have h1 := h.hc
  have h2 := h.hv
  have h3 := h.hg
  exact ⟨h.res.grown hd.2 (by simp; omega), h.var.grown hd.2 (by simp; omega), h.own.grown hd.2 (fun j hj e => by have := (h.own.lt _ hj).1; simp at e; omega), h.dr.trans hd, h.hv, h.hgv, h.hc, h.once⟩
theorem over (h : Sb w0 w w' c a len cap V g c4 xs) {w2 : World} (hb : Below w'.heap.size w' w2) : Sb w0 w w2 c a len cap V g c4 xs :=
  ⟨h.res.over hb, h.var.over hb, h.own.below hb (Nat.le_refl _), h.dr.below h.hc hb, h.hv, h.hgv, h.hc, h.once⟩
theorem alloc (h : Sb w0 w w' c a len cap V g c4 xs) (o : Obj) : Sb w0 w (w'.alloc o) c a len cap V g c4 xs := h.over ((Below.refl _ w').alloc (Nat.le_refl _) o)
theorem put (h : Sb w0 w w' c a len cap V g c4 xs) {j : Nat} (hj : j < 4) (n : ByteArray) (z : Int) (hn : n ∈ five) (hp : placeR xs n < 0) (hz : n.size ≠ 0) :
    Sb w0 w ((w'.setCell ⟨g, j * 2, none⟩ (.string n)).setCell ⟨g, j * 2 + 1, none⟩ (.int .i64 z)) c a len cap V g c4 (xs.set j (n, z)) := by
  have h1 := h.hg
  have h2 := h.hgv
  have hl := h.once.1
  have O : SOwns w' (w.heap.size + 1) 36 (.slice (some ⟨g, 0, none⟩) xs.length c4) xs := by rw [hl]; exact h.own
  have O2 := (O.set_both j (by omega) n z).1
  rw [hl] at O2
  exact ⟨(h.res.other (by omega) _).other (by omega) _, (h.var.other (by omega) _).other (by omega) _, O2, (h.dr.setCell h.hc (by omega) _).setCell h.hc (by omega) _, h.hv, h.hgv, h.hc, once_set h.once hn hp hz⟩
end Sb
theorem five_size : ∀ n ∈ five, n.size ≠ 0 ∧ n.size ≤ 6 := by decide
set_option maxRecDepth 100000 in
set_option maxHeartbeats 3200000 in
theorem block4_any (w0 w : World) (c : Nat) (a : Option Addr) (len cap : Nat) (hcode : CodeIs w0 a len) (hlen : len ≤ 1048576) (hcur : Cur 78 w0 w c a len cap) (hcw : c < w.heap.size) :
    Calls Try.prog 42 #[.pointer (some ⟨c, 0, none⟩)] w fun e w' => ∃ (d : Bool) (v : Value) (t : ByteArray) (xs : List Sl), e = .returned (.agg #[.bool d, v, .string t]) ∧ SOwns w' w.heap.size 36 v xs ∧ ((d = false ∧ xs = [] ∧ v = .slice none 0 0 ∧ t.size ≤ 16) ∨ (d = true ∧ Once xs ∧ t = ⟨#[]⟩)) ∧ Drew w0 w w' c a len cap := by
  have HC := hide hcur
  have HO := hide hcode
  clear hcur hcode
  go_enter Try.func42, Try.ntmps42
  go_wp2_with fail
  refine (once_any w0 _ c a len cap 2 HO.out hlen (cur_alloc HC.out hcw _) (by decide) (by decide)).mono ?_
  rintro e w1 ⟨x, rfl, D1⟩
  have d1 : Drew w0 w w1 c a len cap := ((Drew.refl HC.out).alloc hcw _).trans D1
  have r1 : AtC w1 w.heap.size 26 #[.bool false, .slice none 0 0, .string ⟨#[]⟩] := (AtC.new w 26 _).grown D1.2 (by simp; omega)
  have s1 : w.heap.size < w1.heap.size := r1.lt
  have H1 := hide (And.intro d1 r1)
  clear D1 d1 r1
  cases hx : (x == 0) with
  | true =>
    clear hx
    go_wp2_with fail
    refine (below_any w0 _ c a len cap 17 HO.out hlen H1.out.1.cur (by decide) (by decide)).mono ?_
    rintro e w2 ⟨n, hn, rfl, D2⟩
    have d2 := H1.out.1.trans D2
    have r2 := H1.out.2.grown D2.2 (by simp; omega)
    have s2 : w.heap.size < w2.heap.size := r2.lt
    have H2 := hide (And.intro d2 r2)
    clear D2 d2 r2 H1
    go_wp2_with fail
    refine (text_any w0 _ c a len cap n HO.out hlen H2.out.1.cur (by omega) (by omega)).mono ?_
    rintro e w3 ⟨l, hl, rfl, D3⟩
    have d3 := H2.out.1.trans D3
    have r3 := H2.out.2.grown D3.2 (by simp; omega)
    obtain ⟨t, ht⟩ : ∃ t : ByteArray, (⟨l.toArray⟩ : ByteArray) = t := ⟨_, rfl⟩
    have htz : t.size ≤ 16 := by rw [← ht]; simp [ByteArray.size]; omega
    rw [ht]
    obtain ⟨q0, q1, q2, ql⟩ := r3.three
    obtain ⟨f0, f1, f2⟩ := r3.frz
    have H3 := hide d3
    have HT := hide htz
    clear D3 d3 r3 H2 ht hl htz
    go_wp2
    refine bodyPost_ret (v := .agg #[.bool false, .slice none 0 0, .string t]) (by simp [results, go_sem, q0, q1, q2]) rfl ⟨false, _, t, [], rfl, SOwns.nil _ _ _, .inl ⟨rfl, rfl, rfl, HT.out⟩, ?_⟩
    exact ((H3.out.setCell hcw (Nat.le_refl _) _).setCell hcw (Nat.le_refl _) _).setCell hcw (Nat.le_refl _) _
  | false =>
    clear hx
    go_wp2_with fail
    refine (specNew_any w1).mono ?_
    rintro e w2 ⟨v, rfl, O2, B2⟩
    obtain ⟨a2, c4, rfl⟩ := O2.form4
    obtain ⟨g, c5, e1, -, -, -, hg1, hg2, -⟩ := O2.at 0 (by decide)
    simp only [Value.slice.injEq] at e1
    obtain ⟨rfl, -, rfl⟩ := e1
    obtain ⟨V, hV⟩ : ∃ V, w2.heap.size = V := ⟨_, rfl⟩
    have st : Sb w0 w (w2.alloc (.cells #[.bool true, .slice (some ⟨g, 0, none⟩) 4 c4, .string ⟨#[]⟩] 26)) c a len cap V g c4 noSl :=
      ⟨(H1.out.2.over B2).alloc _, by rw [← hV]; exact AtC.new w2 26 _, (O2.base_le (by omega)).alloc _, (H1.out.1.below hcw B2).alloc hcw _, by have := B2.size; omega, by omega, hcw, once_new⟩
    have HS := hide st
    clear st O2 B2 H1 hg1 hg2
    go_wp2_with fail
    go_loopw [4, 5] (fun i _ wr => ∃ (j : Nat) (xs : List Sl), j ≤ 4 ∧ i = .int .i64 j ∧ Sb w0 w wr c a len cap V g c4 xs) (fun i _ _ => 4 - (intOf i).toNat)
    case atStart => exact ⟨0, noSl, Nat.zero_le _, rfl, HS.out⟩
    case round =>
      obtain ⟨j, xs, hj, rfl, hst⟩ := hrel
      have HT := hide hst
      have hvw := hst.hv
      have hgw := hst.hg
      have hgV := hst.hgv
      clear hst
      by_cases hlt : j < 4
      · have j0 : (0 : Int) ≤ (j : Int) := by omega
        have j1 : (j : Int) < 4 := by omega
        go_wp2_with fail
        refine (name_any w0 wr c a len cap HO.out hlen HT.out.dr.cur (by have := HT.out.var.lt; omega)).mono ?_
        rintro e w3 ⟨n, hn, rfl, D3⟩
        have H3 := hide (HT.out.drews D3)
        clear D3
        go_wp2_with fail
        refine (below_any w0 w3 c a len cap 8 HO.out hlen H3.out.dr.cur (by decide) (by decide)).mono ?_
        rintro e w4 ⟨z, hz, rfl, D4⟩
        have H4 := hide (H3.out.drews D4)
        have H5 := hide (H4.out.alloc (.cells #[.string n, .int .i64 (1 + (z : Int))] 36))
        have HN5 := hide (AtC.new w4 36 #[.string n, .int .i64 (1 + (z : Int))])
        obtain ⟨v0, v1, v2, vl⟩ := H4.out.var.three
        have hVl : V < w4.heap.size := vl
        clear D4 H3
        go_wp2_with fail
        refine (specSlot_any true _ ⟨#[]⟩ xs n _ H5.out.own.rsl (by have := H5.out.once.1; omega)).mono ?_
        rintro e w5 ⟨rfl, B5⟩
        have H6 := hide (H5.out.over B5)
        have HN6 := hide (HN5.out.over B5)
        obtain ⟨r, hr⟩ : ∃ r, placeR xs n = r := ⟨_, rfl⟩
        rw [hr]
        have HR := hide hr
        clear hr B5 H5 HN5 H4 v0 v1 v2
        by_cases hneg : r < 0
        · have hd : decide (r < 0) = true := by simpa using hneg
          have h5l : V < w5.heap.size := H6.out.var.lt
          go_wp2_with fail
          refine (once_any w0 w5 c a len cap 2 HO.out hlen H6.out.dr.cur (by decide) (by decide)).mono ?_
          rintro e w6 ⟨x6, rfl, D6⟩
          have H7 := hide (H6.out.drews D6)
          have HN7 := hide (HN6.out.grown D6.2 (by simp; omega))
          clear D6 H6 HN6
          cases hx6 : (x6 == 0) with
          | true =>
            clear hx6
            obtain ⟨v0, v1, v2, vl7⟩ := H7.out.var.three
            obtain ⟨n0, n1, nl⟩ := HN7.out.two
            have O7 : SOwns w6 (w.heap.size + 1) 36 (.slice (some ⟨g, 0, none⟩) xs.length c4) xs := by rw [H7.out.once.1]; exact H7.out.own
            obtain ⟨g3, c3, e3, k1, k2, k3, k4, k5, -⟩ := O7.at j (by rw [H7.out.once.1]; exact hlt)
            simp only [Value.slice.injEq, Option.some.injEq, Addr.mk.injEq] at e3
            obtain ⟨⟨rfl, -, -⟩, -, rfl⟩ := e3
            have H8 := hide (H7.out.put hlt n (1 + (z : Int)) hn (by rw [HR.out]; exact hneg) (five_size n hn).1)
            clear O7 k4 HN7
            go_wp2
            go_roundw
            case rel => exact ⟨j + 1, _, by omega, by go_num, H8.out⟩
            case measure => simp [intOf]; omega
          | false =>
            clear hx6 HN7
            go_wp2
            go_roundw
            case rel => exact ⟨j + 1, _, by omega, by go_num, H7.out⟩
            case measure => simp [intOf]; omega
        · have hd : decide (r < 0) = false := by simpa using hneg
          clear HN6
          go_wp2
          go_roundw
          case rel => exact ⟨j + 1, _, by omega, by go_num, H6.out⟩
          case measure => simp [intOf]; omega
      · have H3 := HT
        obtain ⟨q0, q1, q2, ql⟩ := HT.out.res.three
        obtain ⟨f0, f1, f2⟩ := HT.out.res.frz
        obtain ⟨v0, v1, v2, vl⟩ := HT.out.var.three
        go_wp2
        refine bodyPost_ret (v := .agg #[.bool true, .slice (some ⟨g, 0, none⟩) 4 c4, .string ⟨#[]⟩]) (by simp [results, go_sem, q0, q1, q2]) rfl ⟨true, _, ⟨#[]⟩, xs, rfl, ?_, .inr ⟨rfl, HT.out.once, rfl⟩, ?_⟩
        · exact (((HT.out.own.setCell_low (by omega) _).setCell_low (by omega) _).setCell_low (by omega) _).base_le (by omega)
        · exact ((HT.out.dr.setCell hcw (Nat.le_refl _) _).setCell hcw (Nat.le_refl _) _).setCell hcw (Nat.le_refl _) _
end Go.Proofs.Ytfffiboggpjjkaa
