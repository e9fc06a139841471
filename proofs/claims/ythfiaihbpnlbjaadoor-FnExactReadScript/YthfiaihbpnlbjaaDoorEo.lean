/- impl.eventOf by its contract. -/
import Derived.Test.YthfiaihbpnlbjaaDoorWm
import Derived.Test.YthfiaihbpnlbjaaDoorLe
import Derived.Deep.RegionWith
namespace Go.Proofs.YthfiaihbpnlbjaaDoor
open Go.RowKit Kit
theorem i8 {i : Nat} (h : i < 8) : i = 0 ∨ i = 1 ∨ i = 2 ∨ i = 3 ∨ i = 4 ∨ i = 5 ∨ i = 6 ∨ i = 7 := by omega
theorem evP_word (i : Nat) (hi : i < 8) (r : List ByteArray) : evP (word i :: r) = if r.length = nOf i then evK (i + 1) (word i :: r) else (evd, false) := by
  by_cases h : r.length = nOf i
  · rw [if_pos h]
    rcases i8 hi with rfl | rfl | rfl | rfl | rfl | rfl | rfl | rfl
    · show evF wk 1 _ = _
      unfold wk
      rw [evF_hit { data := #[109, 97, 107, 101] } 2 (p0 := word 0) rfl (by rw [h]; rfl)]
    · show evF wk 1 _ = _
      unfold wk
      rw [evF_word _ _ (by decide), evF_hit { data := #[100, 105, 114] } 2 (p0 := word 1) rfl (by rw [h]; rfl)]
    · show evF wk 1 _ = _
      unfold wk
      rw [evF_word _ _ (by decide), evF_word _ _ (by decide), evF_hit { data := #[119, 114, 105, 116, 101] } 4 (p0 := word 2) rfl (by rw [h]; rfl)]
    · show evF wk 1 _ = _
      unfold wk
      rw [evF_word _ _ (by decide), evF_word _ _ (by decide), evF_word _ _ (by decide), evF_hit { data := #[114, 101, 109, 111, 118, 101] } 2 (p0 := word 3) rfl (by rw [h]; rfl)]
    · show evF wk 1 _ = _
      unfold wk
      rw [evF_word _ _ (by decide), evF_word _ _ (by decide), evF_word _ _ (by decide), evF_word _ _ (by decide), evF_hit { data := #[109, 111, 118, 101] } 3 (p0 := word 4) rfl (by rw [h]; rfl)]
    · show evF wk 1 _ = _
      unfold wk
      rw [evF_word _ _ (by decide), evF_word _ _ (by decide), evF_word _ _ (by decide), evF_word _ _ (by decide), evF_word _ _ (by decide), evF_hit { data := #[98, 97, 99, 107] } 2 (p0 := word 5) rfl (by rw [h]; rfl)]
    · show evF wk 1 _ = _
      unfold wk
      rw [evF_word _ _ (by decide), evF_word _ _ (by decide), evF_word _ _ (by decide), evF_word _ _ (by decide), evF_word _ _ (by decide), evF_word _ _ (by decide), evF_hit { data := #[102, 108, 117, 115, 104] } 1 (p0 := word 6) rfl (by rw [h]; rfl)]
    · show evF wk 1 _ = _
      unfold wk
      rw [evF_word _ _ (by decide), evF_word _ _ (by decide), evF_word _ _ (by decide), evF_word _ _ (by decide), evF_word _ _ (by decide), evF_word _ _ (by decide), evF_word _ _ (by decide), evF_hit { data := #[102, 97, 108, 108] } 1 (p0 := word 7) rfl (by rw [h]; rfl)]
  · rw [if_neg h]
    rcases i8 hi with rfl | rfl | rfl | rfl | rfl | rfl | rfl | rfl
    · show evF wk 1 _ = _
      unfold wk
      rw [evF_len _ 2 (show r.length + 1 ≠ 2 from fun e => h (by show r.length = 1; omega)), evF_word _ _ (by decide), evF_word _ _ (by decide), evF_word _ _ (by decide), evF_word _ _ (by decide), evF_word _ _ (by decide), evF_word _ _ (by decide), evF_word _ _ (by decide)]
      rfl
    · show evF wk 1 _ = _
      unfold wk
      rw [evF_word _ _ (by decide), evF_len _ 2 (show r.length + 1 ≠ 2 from fun e => h (by show r.length = 1; omega)), evF_word _ _ (by decide), evF_word _ _ (by decide), evF_word _ _ (by decide), evF_word _ _ (by decide), evF_word _ _ (by decide), evF_word _ _ (by decide)]
      rfl
    · show evF wk 1 _ = _
      unfold wk
      rw [evF_word _ _ (by decide), evF_word _ _ (by decide), evF_len _ 4 (show r.length + 1 ≠ 4 from fun e => h (by show r.length = 3; omega)), evF_word _ _ (by decide), evF_word _ _ (by decide), evF_word _ _ (by decide), evF_word _ _ (by decide), evF_word _ _ (by decide)]
      rfl
    · show evF wk 1 _ = _
      unfold wk
      rw [evF_word _ _ (by decide), evF_word _ _ (by decide), evF_word _ _ (by decide), evF_len _ 2 (show r.length + 1 ≠ 2 from fun e => h (by show r.length = 1; omega)), evF_word _ _ (by decide), evF_word _ _ (by decide), evF_word _ _ (by decide), evF_word _ _ (by decide)]
      rfl
    · show evF wk 1 _ = _
      unfold wk
      rw [evF_word _ _ (by decide), evF_word _ _ (by decide), evF_word _ _ (by decide), evF_word _ _ (by decide), evF_len _ 3 (show r.length + 1 ≠ 3 from fun e => h (by show r.length = 2; omega)), evF_word _ _ (by decide), evF_word _ _ (by decide), evF_word _ _ (by decide)]
      rfl
    · show evF wk 1 _ = _
      unfold wk
      rw [evF_word _ _ (by decide), evF_word _ _ (by decide), evF_word _ _ (by decide), evF_word _ _ (by decide), evF_word _ _ (by decide), evF_len _ 2 (show r.length + 1 ≠ 2 from fun e => h (by show r.length = 1; omega)), evF_word _ _ (by decide), evF_word _ _ (by decide)]
      rfl
    · show evF wk 1 _ = _
      unfold wk
      rw [evF_word _ _ (by decide), evF_word _ _ (by decide), evF_word _ _ (by decide), evF_word _ _ (by decide), evF_word _ _ (by decide), evF_word _ _ (by decide), evF_len _ 1 (show r.length + 1 ≠ 1 from fun e => h (by show r.length = 0; omega)), evF_word _ _ (by decide)]
      rfl
    · show evF wk 1 _ = _
      unfold wk
      rw [evF_word _ _ (by decide), evF_word _ _ (by decide), evF_word _ _ (by decide), evF_word _ _ (by decide), evF_word _ _ (by decide), evF_word _ _ (by decide), evF_word _ _ (by decide), evF_len _ 1 (show r.length + 1 ≠ 1 from fun e => h (by show r.length = 0; omega))]
      rfl
theorem evP_none {x0 : ByteArray} (h : ∀ i, i < 8 → x0 ≠ word i) (r : List ByteArray) : evP (x0 :: r) = (evd, false) := by
  show evF wk 1 _ = _
  unfold wk
  rw [evF_word { data := #[109, 97, 107, 101] } _ (h 0 (by decide)), evF_word { data := #[100, 105, 114] } _ (h 1 (by decide)), evF_word { data := #[119, 114, 105, 116, 101] } _ (h 2 (by decide)), evF_word { data := #[114, 101, 109, 111, 118, 101] } _ (h 3 (by decide)), evF_word { data := #[109, 111, 118, 101] } _ (h 4 (by decide)), evF_word { data := #[98, 97, 99, 107] } _ (h 5 (by decide)), evF_word { data := #[102, 108, 117, 115, 104] } _ (h 6 (by decide)), evF_word { data := #[102, 97, 108, 108] } _ (h 7 (by decide))]
  rfl
theorem lk8 (f0 f1 f2 f3 f4 f5 f6 f7 : Value) (i : Nat) (hi : i < 8) : ∃ f, lk (ls8 f0 f1 f2 f3 f4 f5 f6 f7) (kyL i) = some f ∧ (i, f) ∈ ls8 f0 f1 f2 f3 f4 f5 f6 f7 := by
  rcases i8 hi with rfl | rfl | rfl | rfl | rfl | rfl | rfl | rfl
  · exact ⟨f0, rfl, by simp⟩
  · exact ⟨f1, rfl, by simp⟩
  · exact ⟨f6, rfl, by simp⟩
  · exact ⟨f2, rfl, by simp⟩
  · exact ⟨f5, rfl, by simp⟩
  · exact ⟨f7, rfl, by simp⟩
  · exact ⟨f3, rfl, by simp⟩
  · exact ⟨f4, rfl, by simp⟩
theorem lk8_none (f0 f1 f2 f3 f4 f5 f6 f7 : Value) {x0 : ByteArray} (h : ∀ i, i < 8 → x0 ≠ word i) : lk (ls8 f0 f1 f2 f3 f4 f5 f6 f7) x0.data.toList = none := by
  have k : ∀ i, i < 8 → ¬ kyL i = x0.data.toList := fun i hi e => h i hi (bytes_ext e.symm)
  simp only [lk, k 0 (by decide), k 1 (by decide), k 2 (by decide), k 3 (by decide), k 4 (by decide), k 5 (by decide), k 6 (by decide), k 7 (by decide), if_false]
theorem callF_any (i : Nat) (hi : i < 8) (w : World) (B : Nat) (f : Value) (hf : FW w B i f) (x0 : ByteArray) (r : List ByteArray) (a : Option Addr) (c : Nat) (hv : RSt w (.slice a r.length c) r) (hz : ∀ x ∈ r, x.size ≤ 600) :
    ∃ pn pr, f = exF pn pr ∧ Calls Tryd.prog 39 #[.slice a r.length c, pt pn, pt pr] w fun e w' => e = .returned (if r.length = nOf i then .tuple #[evW (evK (i + 1) (x0 :: r)).1, .bool (evK (i + 1) (x0 :: r)).2] else .tuple #[evW evd, .bool false]) ∧ Below w.heap.size w w' := by
  obtain ⟨pn, pr, rf, rfl, -, -, hn, hr, hrf⟩ := hf
  refine ⟨pn, pr, rfl, ?_⟩
  rcases i8 hi with rfl | rfl | rfl | rfl | rfl | rfl | rfl | rfl
  · obtain ⟨pk, -, rfl, hk⟩ := hrf
    refine exact1_any pn pr 1 37 (pt pk) (enters_of Tryd.func37 (by kernel_rfl) rfl) _ _ a c r.length w hn hr fun hl W hb => ?_
    have hv' := hv.below hb
    match r, hl, hv', hz with
    | [y0], _, hv', hz => exact pathC_any a c (0 + 1) pk y0 W hv' (hk.over hb)
  · obtain ⟨pk, -, rfl, hk⟩ := hrf
    refine exact1_any pn pr 1 37 (pt pk) (enters_of Tryd.func37 (by kernel_rfl) rfl) _ _ a c r.length w hn hr fun hl W hb => ?_
    have hv' := hv.below hb
    match r, hl, hv', hz with
    | [y0], _, hv', hz => exact pathC_any a c (1 + 1) pk y0 W hv' (hk.over hb)
  · obtain rfl : rf = .func (.func 27) #[] #[] := hrf
    refine exact0_any pn pr 3 27 (enters_of Tryd.func27 (by kernel_rfl) rfl) _ _ a c r.length w hn hr fun hl W hb => ?_
    have hv' := hv.below hb
    match r, hl, hv', hz with
    | [y0, y1, y2], _, hv', hz => exact writeC_any a c y0 y1 y2 W hv' (hz y1 (by simp))
  · obtain ⟨pk, -, rfl, hk⟩ := hrf
    refine exact1_any pn pr 1 37 (pt pk) (enters_of Tryd.func37 (by kernel_rfl) rfl) _ _ a c r.length w hn hr fun hl W hb => ?_
    have hv' := hv.below hb
    match r, hl, hv', hz with
    | [y0], _, hv', hz => exact pathC_any a c (3 + 1) pk y0 W hv' (hk.over hb)
  · obtain rfl : rf = .func (.func 26) #[] #[] := hrf
    refine exact0_any pn pr 2 26 (enters_of Tryd.func26 (by kernel_rfl) rfl) _ _ a c r.length w hn hr fun hl W hb => ?_
    have hv' := hv.below hb
    match r, hl, hv', hz with
    | [y0, y1], _, hv', hz => exact moveC_any a c y0 y1 W hv'
  · obtain rfl : rf = .func (.func 29) #[] #[] := hrf
    refine exact0_any pn pr 1 29 (enters_of Tryd.func29 (by kernel_rfl) rfl) _ _ a c r.length w hn hr fun hl W hb => ?_
    have hv' := hv.below hb
    match r, hl, hv', hz with
    | [y0], _, hv', hz => exact backC_any a c y0 W hv' (hz y0 (by simp))
  · obtain ⟨pk, -, rfl, hk⟩ := hrf
    refine exact1_any pn pr 0 38 (pt pk) (enters_of Tryd.func38 (by kernel_rfl) rfl) _ _ a c r.length w hn hr fun hl W hb => ?_
    have hv' := hv.below hb
    match r, hl, hv', hz with
    | [], _, hv', hz => exact loneC_any a c (6 + 1) pk  W hv' (hk.over hb)
  · obtain ⟨pk, -, rfl, hk⟩ := hrf
    refine exact1_any pn pr 0 38 (pt pk) (enters_of Tryd.func38 (by kernel_rfl) rfl) _ _ a c r.length w hn hr fun hl W hb => ?_
    have hv' := hv.below hb
    match r, hl, hv', hz with
    | [], _, hv', hz => exact loneC_any a c (7 + 1) pk  W hv' (hk.over hb)
theorem getD_sz {p : List ByteArray} (h : ∀ x ∈ p, x.size ≤ 600) (i : Nat) : (p.getD i e0).size ≤ 600 := by
  rw [List.getD_eq_getElem?_getD]
  cases hp : p[i]? with
  | none => exact Nat.zero_le _
  | some x => exact h x (List.mem_of_getElem? hp)
def szE (x : Evt) : Prop := x.2.1.size ≤ 1048576 ∧ x.2.2.1.size ≤ 1048576 ∧ x.2.2.2.2.size ≤ 1048576
theorem evK_sz {p : List ByteArray} (h : ∀ x ∈ p, x.size ≤ 600) (k : Nat) : szE (evK k p).1 := by
  have g := fun i => Nat.le_trans (getD_sz h i) (show 600 ≤ 1048576 by decide)
  unfold evK
  have z : e0.size ≤ 1048576 := Nat.zero_le _
  split
  · exact ⟨g 1, z, g 3⟩
  · split
    · exact ⟨g 1, g 2, z⟩
    · split
      · exact ⟨z, z, z⟩
      · split
        · exact ⟨g 1, z, z⟩
        · exact ⟨z, z, z⟩
theorem evF_sz {p : List ByteArray} (h : ∀ x ∈ p, x.size ≤ 600) : ∀ (l : List (ByteArray × Nat)) (k : Nat), szE (evF l k p).1
  | [], _ => ⟨Nat.zero_le _, Nat.zero_le _, Nat.zero_le _⟩
  | x :: l, k => by
    unfold evF
    split
    · exact evK_sz h k
    · exact evF_sz h l (k + 1)
/-- .. and may be cut. -/
def RSc (w : World) (v : Value) (ps : List ByteArray) : Prop := RSt w v ps ∧ ∃ a c, v = .slice a ps.length c ∧ ps.length ≤ c
set_option maxRecDepth 100000 in
set_option maxHeartbeats 6400000 in
theorem eventOf_any (w0 : World) (f0 f1 f2 f3 f4 f5 f6 f7 : Value) (w : World) (hM : MW w0 w (ls8 f0 f1 f2 f3 f4 f5 f6 f7)) (v : Value) (x0 : ByteArray) (r : List ByteArray) (hv : RSc w v (x0 :: r)) (hz : ∀ x ∈ x0 :: r, x.size ≤ 600) (hl : r.length ≤ 10) :
    Calls Tryd.prog 17 #[.map (some w0.heap.size), v] w fun e w' => e = .returned (.tuple #[evW (evP (x0 :: r)).1, .bool ((evP (x0 :: r)).2 && evOk (evP (x0 :: r)).1)]) ∧ Below w.heap.size w w' := by
  obtain ⟨hv, a, c, rfl, hcap⟩ := hv
  obtain ⟨a', c', e, hc⟩ := hv
  simp only [Value.slice.injEq, true_and] at e
  obtain ⟨rfl, rfl⟩ := e
  obtain ⟨g, off, rfl, hg, k0⟩ := hc 0 (by simp)
  simp only [Nat.add_zero, List.getElem_cons_zero] at k0
  have HR1 : Hid (RSt w (.slice (some ⟨g, off + 1, none⟩) r.length (c - 1)) r) := by
    refine hide ⟨_, _, rfl, fun j hj => ?_⟩
    obtain ⟨g', off', e, hg', hc'⟩ := hc (j + 1) (by simp; omega)
    simp only [Option.some.injEq, Addr.mk.injEq, and_true] at e
    obtain ⟨rfl, rfl⟩ := e
    exact ⟨g, off + 1, rfl, hg', by rw [show off + 1 + j = off + (j + 1) by omega]; exact hc'⟩
  have hx0 : x0.size ≤ 1000000 := by have := hz x0 (by simp); omega
  have HZ2 := hide hz
  have HZ := hide (fun x hx => hz x (List.mem_cons_of_mem _ hx))
  obtain ⟨W0, hW0⟩ : ∃ W0, w.alloc (.cells #[.int .i64 0, .string e0, .string e0, .int .i64 0, .string e0] 33) = W0 := ⟨_, rfl⟩
  have HB : Hid (Below w.heap.size w W0 ∧ AtC W0 w.heap.size 33 #[.int .i64 0, .string e0, .string e0, .int .i64 0, .string e0] ∧ w.heap.size < W0.heap.size) := by
    rw [← hW0]
    exact hide ⟨(Below.refl _ w).alloc (Nat.le_refl _) _, AtC.new w 33 _, by simp⟩
  have HM := hide (hM.over HB.out.1)
  obtain ⟨fv, ps, hrun, hRv⟩ := HM.out.own.look_ok (t := 37) (e := 48) keyed9 Tryd.underlying37 (z := .nilFunc) (Tryd.zeroValue48 _) (zd := .held .nilFunc) (zp := []) rfl (key := .string x0) (key9 x0 hx0)
  rw [DL_has] at hrun
  rw [DL_at] at hRv
  simp only [Option.some.injEq, Prod.mk.injEq, DataW.held.injEq] at hRv
  obtain ⟨rfl, -⟩ := hRv
  have n0 := (HB.out.1.cell (p := ⟨g, off, none⟩) hg).trans k0
  rw [show (x0 :: r).length = r.length + 1 from rfl] at hcap ⊢
  obtain ⟨n, hn⟩ : ∃ n, r.length = n := ⟨_, rfl⟩
  have HN := hide hn
  rw [hn] at hl hcap ⊢
  have t1 : (1 : Int) ≤ (n : Int) + 1 := by omega
  have t2 : (n : Int) + 1 ≤ (c : Int) := by omega
  by_cases hi : ∃ i, i < 8 ∧ x0 = word i
  · obtain ⟨i, hi, rfl⟩ := hi
    obtain ⟨f, hf1, hf2⟩ := lk8 f0 f1 f2 f3 f4 f5 f6 f7 i hi
    rw [show (word i).data.toList = kyL i from rfl, hf1] at hrun
    simp only [Option.getD_some, Option.isSome_some] at hrun
    by_cases hc1 : c = 1
    · obtain rfl : n = 0 := by omega
      have hr0 : r = [] := List.length_eq_zero_iff.1 (by omega)
      have HR0 : Hid (RSt W0 (.slice (some ⟨g, off, none⟩) r.length 0) r) := hide ⟨_, _, rfl, fun j hj => by rw [hr0] at hj; simp at hj⟩
      clear hr0
      subst hc1
      obtain ⟨pn, pr, rfl, HC⟩ := callF_any i hi W0 _ f (HM.out.fs _ hf2) (word i) r (some ⟨g, off, none⟩) (0) (HR0.out) HZ.out
      rw [show (if r.length = nOf i then (.tuple #[evW (evK (i + 1) (word i :: r)).1, .bool (evK (i + 1) (word i :: r)).2] : Value) else .tuple #[evW evd, .bool false]) = .tuple #[evW (evP (word i :: r)).1, .bool (evP (word i :: r)).2] by rw [evP_word i hi r]; split <;> rfl, hn] at HC
      have HCC := hide HC
      clear HC hn hM hc hz
      obtain ⟨⟨E, okE⟩, hE⟩ : ∃ E, evP (word i :: r) = E := ⟨_, rfl⟩
      have HSZ : Hid (szE E) := by
        have := evF_sz (p := word i :: r) (fun x hx => HZ2.out x hx) wk 1
        rw [show evF wk 1 (word i :: r) = evP (word i :: r) from rfl, hE] at this
        exact this
      rw [hE] at HCC ⊢
      clear hE
      obtain ⟨x1, x2, x3, x4, x5⟩ := E
      simp only at HCC ⊢
      have e39 : ∀ args W, (callFunc 39 args).run Tryd.prog W = .ok (.enter 39 args) W := enters_of Tryd.func39 (by kernel_rfl) rfl
      have HEV := hide (fun W => implEv_any x1 x2 x3 x4 x5 W HSZ.out.1 HSZ.out.2.1 HSZ.out.2.2)
      go_enter Tryd.func17, Tryd.ntmps17
      go_wp2_with fail
      refine HCC.out.mono ?_
      rintro e w1 ⟨rfl, B1⟩
      have HB1 : Hid (Below w.heap.size w w1 ∧ AtC w1 w.heap.size 33 #[.int .i64 0, .string e0, .string e0, .int .i64 0, .string e0]) := hide ⟨HB.out.1.trans (B1.mono HB.out.1.size), HB.out.2.1.over B1⟩
      clear B1
      obtain ⟨X1, hX1⟩ : ∃ X1, w1.alloc (.cells #[.int .i64 x1, .string x2, .string x3, .int .i64 x4, .string x5] 33) = X1 := ⟨_, rfl⟩
      have HX : Hid (Below w.heap.size w X1 ∧ AtC X1 w.heap.size 33 #[.int .i64 0, .string e0, .string e0, .int .i64 0, .string e0] ∧ AtC X1 w1.heap.size 33 #[.int .i64 x1, .string x2, .string x3, .int .i64 x4, .string x5]) := by
        rw [← hX1]
        exact hide ⟨HB1.out.1.alloc HB1.out.1.size _, HB1.out.2.alloc _, AtC.new w1 33 _⟩
      obtain ⟨eb, heb⟩ : ∃ eb, w1.heap.size = eb := ⟨_, rfl⟩
      rw [heb] at HX
      have HK : Hid (∀ W, Below X1.heap.size X1 W → Below w.heap.size w W ∧ AtC W w.heap.size 33 #[.int .i64 0, .string e0, .string e0, .int .i64 0, .string e0] ∧ AtC W eb 33 #[.int .i64 x1, .string x2, .string x3, .int .i64 x4, .string x5]) := hide fun W b => ⟨HX.out.1.trans (b.mono HX.out.1.size), HX.out.2.1.over b, HX.out.2.2.over b⟩
      cases okE with
      | true =>
        obtain ⟨m0, m1, m2, m3, m4, mz⟩ := HX.out.2.2.five
        obtain ⟨l0, l1, l2, l3, l4, lz⟩ := HX.out.2.1.five
        obtain ⟨q0, q1, q2, q3, q4⟩ := HX.out.2.1.frz5
        go_wp2
        go_region_with (go_at_call 34; refine (HEV.out _).mono ?_; rintro e w2 ⟨rfl, B2⟩; obtain ⟨b2, c2, d2⟩ := HK.out _ ((Below.refl _ X1).drew.trans B2); obtain ⟨m0, m1, m2, m3, m4, mz⟩ := d2.five; obtain ⟨l0, l1, l2, l3, l4, lz⟩ := c2.five; obtain ⟨q0, q1, q2, q3, q4⟩ := c2.frz5)
        all_goals (
          obtain ⟨r0, r1, r2, r3, r4, rz⟩ := (res5 c2 (.int .i64 x1) (.string x2) (.string x3) (.int .i64 x4) (.string x5)).five
          go_wp2
          refine bodyPost_ret (v := .tuple #[.agg #[.int .i64 x1, .string x2, .string x3, .int .i64 x4, .string x5], .bool (evB x1 x2 x3 x4 x5)]) (by simp [results, go_sem, r0, r1, r2, r3, r4]) rfl ⟨rfl, ?_⟩
          exact below_set (below_set (below_set (below_set (below_set b2 _ _ _ (Nat.le_refl _)) _ _ _ (Nat.le_refl _)) _ _ _ (Nat.le_refl _)) _ _ _ (Nat.le_refl _)) _ _ _ (Nat.le_refl _))
      | false =>
        obtain ⟨m0, m1, m2, m3, m4, mz⟩ := HX.out.2.2.five
        obtain ⟨l0, l1, l2, l3, l4, lz⟩ := HX.out.2.1.five
        obtain ⟨q0, q1, q2, q3, q4⟩ := HX.out.2.1.frz5
        have HR : Hid (AtC (((((X1.setCell ⟨w.heap.size, 0, none⟩ (.int .i64 x1)).setCell ⟨w.heap.size, 1, none⟩ (.string x2)).setCell ⟨w.heap.size, 2, none⟩ (.string x3)).setCell ⟨w.heap.size, 3, none⟩ (.int .i64 x4)).setCell ⟨w.heap.size, 4, none⟩ (.string x5)).drew w.heap.size 33 #[.int .i64 x1, .string x2, .string x3, .int .i64 x4, .string x5]) := hide (res5 HX.out.2.1 (.int .i64 x1) (.string x2) (.string x3) (.int .i64 x4) (.string x5))
        obtain ⟨r0, r1, r2, r3, r4, rz⟩ := HR.out.five
        go_wp2
        go_region
        go_wp2
        refine bodyPost_ret (v := .tuple #[.agg #[.int .i64 x1, .string x2, .string x3, .int .i64 x4, .string x5], .bool false]) (by simp [results, go_sem, r0, r1, r2, r3, r4]) rfl ⟨rfl, ?_⟩
        exact (below_set (below_set (below_set (below_set (below_set HX.out.1 _ _ _ (Nat.le_refl _)) _ _ _ (Nat.le_refl _)) _ _ _ (Nat.le_refl _)) _ _ _ (Nat.le_refl _)) _ _ _ (Nat.le_refl _)).drew
    · obtain ⟨pn, pr, rfl, HC⟩ := callF_any i hi W0 _ f (HM.out.fs _ hf2) (word i) r (some ⟨g, off + 1, none⟩) (c - 1) (HR1.out.below HB.out.1) HZ.out
      rw [show (if r.length = nOf i then (.tuple #[evW (evK (i + 1) (word i :: r)).1, .bool (evK (i + 1) (word i :: r)).2] : Value) else .tuple #[evW evd, .bool false]) = .tuple #[evW (evP (word i :: r)).1, .bool (evP (word i :: r)).2] by rw [evP_word i hi r]; split <;> rfl, hn] at HC
      have HCC := hide HC
      clear HC hn hM hc hz
      obtain ⟨⟨E, okE⟩, hE⟩ : ∃ E, evP (word i :: r) = E := ⟨_, rfl⟩
      have HSZ : Hid (szE E) := by
        have := evF_sz (p := word i :: r) (fun x hx => HZ2.out x hx) wk 1
        rw [show evF wk 1 (word i :: r) = evP (word i :: r) from rfl, hE] at this
        exact this
      rw [hE] at HCC ⊢
      clear hE
      obtain ⟨x1, x2, x3, x4, x5⟩ := E
      simp only at HCC ⊢
      have e39 : ∀ args W, (callFunc 39 args).run Tryd.prog W = .ok (.enter 39 args) W := enters_of Tryd.func39 (by kernel_rfl) rfl
      have HEV := hide (fun W => implEv_any x1 x2 x3 x4 x5 W HSZ.out.1 HSZ.out.2.1 HSZ.out.2.2)
      go_enter Tryd.func17, Tryd.ntmps17
      go_wp2_with fail
      refine HCC.out.mono ?_
      rintro e w1 ⟨rfl, B1⟩
      have HB1 : Hid (Below w.heap.size w w1 ∧ AtC w1 w.heap.size 33 #[.int .i64 0, .string e0, .string e0, .int .i64 0, .string e0]) := hide ⟨HB.out.1.trans (B1.mono HB.out.1.size), HB.out.2.1.over B1⟩
      clear B1
      obtain ⟨X1, hX1⟩ : ∃ X1, w1.alloc (.cells #[.int .i64 x1, .string x2, .string x3, .int .i64 x4, .string x5] 33) = X1 := ⟨_, rfl⟩
      have HX : Hid (Below w.heap.size w X1 ∧ AtC X1 w.heap.size 33 #[.int .i64 0, .string e0, .string e0, .int .i64 0, .string e0] ∧ AtC X1 w1.heap.size 33 #[.int .i64 x1, .string x2, .string x3, .int .i64 x4, .string x5]) := by
        rw [← hX1]
        exact hide ⟨HB1.out.1.alloc HB1.out.1.size _, HB1.out.2.alloc _, AtC.new w1 33 _⟩
      obtain ⟨eb, heb⟩ : ∃ eb, w1.heap.size = eb := ⟨_, rfl⟩
      rw [heb] at HX
      have HK : Hid (∀ W, Below X1.heap.size X1 W → Below w.heap.size w W ∧ AtC W w.heap.size 33 #[.int .i64 0, .string e0, .string e0, .int .i64 0, .string e0] ∧ AtC W eb 33 #[.int .i64 x1, .string x2, .string x3, .int .i64 x4, .string x5]) := hide fun W b => ⟨HX.out.1.trans (b.mono HX.out.1.size), HX.out.2.1.over b, HX.out.2.2.over b⟩
      cases okE with
      | true =>
        obtain ⟨m0, m1, m2, m3, m4, mz⟩ := HX.out.2.2.five
        obtain ⟨l0, l1, l2, l3, l4, lz⟩ := HX.out.2.1.five
        obtain ⟨q0, q1, q2, q3, q4⟩ := HX.out.2.1.frz5
        go_wp2
        go_region_with (go_at_call 34; refine (HEV.out _).mono ?_; rintro e w2 ⟨rfl, B2⟩; obtain ⟨b2, c2, d2⟩ := HK.out _ ((Below.refl _ X1).drew.trans B2); obtain ⟨m0, m1, m2, m3, m4, mz⟩ := d2.five; obtain ⟨l0, l1, l2, l3, l4, lz⟩ := c2.five; obtain ⟨q0, q1, q2, q3, q4⟩ := c2.frz5)
        all_goals (
          obtain ⟨r0, r1, r2, r3, r4, rz⟩ := (res5 c2 (.int .i64 x1) (.string x2) (.string x3) (.int .i64 x4) (.string x5)).five
          go_wp2
          refine bodyPost_ret (v := .tuple #[.agg #[.int .i64 x1, .string x2, .string x3, .int .i64 x4, .string x5], .bool (evB x1 x2 x3 x4 x5)]) (by simp [results, go_sem, r0, r1, r2, r3, r4]) rfl ⟨rfl, ?_⟩
          exact below_set (below_set (below_set (below_set (below_set b2 _ _ _ (Nat.le_refl _)) _ _ _ (Nat.le_refl _)) _ _ _ (Nat.le_refl _)) _ _ _ (Nat.le_refl _)) _ _ _ (Nat.le_refl _))
      | false =>
        obtain ⟨m0, m1, m2, m3, m4, mz⟩ := HX.out.2.2.five
        obtain ⟨l0, l1, l2, l3, l4, lz⟩ := HX.out.2.1.five
        obtain ⟨q0, q1, q2, q3, q4⟩ := HX.out.2.1.frz5
        have HR : Hid (AtC (((((X1.setCell ⟨w.heap.size, 0, none⟩ (.int .i64 x1)).setCell ⟨w.heap.size, 1, none⟩ (.string x2)).setCell ⟨w.heap.size, 2, none⟩ (.string x3)).setCell ⟨w.heap.size, 3, none⟩ (.int .i64 x4)).setCell ⟨w.heap.size, 4, none⟩ (.string x5)).drew w.heap.size 33 #[.int .i64 x1, .string x2, .string x3, .int .i64 x4, .string x5]) := hide (res5 HX.out.2.1 (.int .i64 x1) (.string x2) (.string x3) (.int .i64 x4) (.string x5))
        obtain ⟨r0, r1, r2, r3, r4, rz⟩ := HR.out.five
        go_wp2
        go_region
        go_wp2
        refine bodyPost_ret (v := .tuple #[.agg #[.int .i64 x1, .string x2, .string x3, .int .i64 x4, .string x5], .bool false]) (by simp [results, go_sem, r0, r1, r2, r3, r4]) rfl ⟨rfl, ?_⟩
        exact (below_set (below_set (below_set (below_set (below_set HX.out.1 _ _ _ (Nat.le_refl _)) _ _ _ (Nat.le_refl _)) _ _ _ (Nat.le_refl _)) _ _ _ (Nat.le_refl _)) _ _ _ (Nat.le_refl _)).drew
  · have HE := hide (evP_none (fun i h1 h2 => hi ⟨i, h1, h2⟩) r)
    rw [lk8_none _ _ _ _ _ _ _ _ (fun i h1 h2 => hi ⟨i, h1, h2⟩)] at hrun
    simp only [Option.getD_none, Option.isSome_none] at hrun
    rw [HE.out]
    clear hi hn hM hc hz
    obtain ⟨l0, l1, l2, l3, l4, lz⟩ := HB.out.2.1.five
    obtain ⟨q0, q1, q2, q3, q4⟩ := HB.out.2.1.frz5
    obtain ⟨r0, r1, r2, r3, r4, rz⟩ := (res5 HB.out.2.1 (.int .i64 0) (.string e0) (.string e0) (.int .i64 0) (.string e0)).five
    go_enter Tryd.func17, Tryd.ntmps17
    go_wp2
    refine bodyPost_ret (v := .tuple #[.agg #[.int .i64 0, .string e0, .string e0, .int .i64 0, .string e0], .bool false]) (by simp [results, go_sem, r0, r1, r2, r3, r4]) rfl ⟨rfl, ?_⟩
    exact below_set (below_set (below_set (below_set (below_set HB.out.1 _ _ _ (Nat.le_refl _)) _ _ _ (Nat.le_refl _)) _ _ _ (Nat.le_refl _)) _ _ _ (Nat.le_refl _)) _ _ _ (Nat.le_refl _)
end Go.Proofs.YthfiaihbpnlbjaaDoor
