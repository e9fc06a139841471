/- The walk of laws.FnExactWriteUnit: it returns true at every device, number and text. -/
import Derived.Test.YtohmppcgbecifaaWrS
import Derived.Test.YtohmppcgbecifaaWrI
namespace Go.Proofs.Ytohmppcgbecifaa.Kit
open Go.RowKit
/-- The law's variables: its argument, the specification's answer, the copy that was handed in, the program's answer. -/
structure Sg (w wi : World) (vD vw vx vg : Value) (bw bx bg : Nat) (lw lx lg : List ByteArray) : Prop where
  b : Below w.heap.size w wi
  d : AtO 29 wi w.heap.size vD
  w0 : AtO 32 wi bw vw
  x0 : AtO 32 wi bx vx
  g0 : AtO 32 wi bg vg
  ow : ROwns wi (w.heap.size + 1) 9 vw (sc lw)
  ox : ROwns wi (bw + 1) 9 vx (sc lx)
  og : ROwns wi (bx + 1) 9 vg (sc lg)
  tw : ∀ k, vw.ownBlock = some k → k < bw
  tx : ∀ k, vx.ownBlock = some k → k < bx
  tg : ∀ k, vg.ownBlock = some k → k < bg
  o1 : w.heap.size < bw
  o2 : bw < bx
  o3 : bx < bg
namespace Sg
variable {w wi wj : World} {vD vw vx vg : Value} {bw bx bg : Nat} {lw lx lg : List ByteArray}
theorem below (h : Sg w wi vD vw vx vg bw bx bg lw lx lg) (hb : Below wi.heap.size wi wj) : Sg w wj vD vw vx vg bw bx bg lw lx lg :=
  ⟨h.b.trans (hb.mono h.b.size), h.d.below hb h.d.lt, h.w0.below hb h.w0.lt, h.x0.below hb h.x0.lt, h.g0.below hb h.g0.lt, h.ow.below hb (Nat.le_refl _), h.ox.below hb (Nat.le_refl _), h.og.below hb (Nat.le_refl _), h.tw, h.tx, h.tg, h.o1, h.o2, h.o3⟩
theorem alloc (h : Sg w wi vD vw vx vg bw bx bg lw lx lg) (o : Obj) : Sg w (wi.alloc o) vD vw vx vg bw bx bg lw lx lg := h.below ((Below.refl _ wi).alloc (Nat.le_refl _) o)
theorem markX {lx' : List ByteArray} (h : Sg w wi vD vw vx vg bw bx bg lw lx lg) (O : ROwns wj (bw + 1) 9 vx (sc lx')) (G : wi.grownBy wj vx.ownBlock) : Sg w wj vD vw vx vg bw bx bg lw lx' lg := by
  have r := fun k hk => (h.ox.lt k hk).1
  have o1 := h.o1
  have o2 := h.o2
  have o3 := h.o3
  refine ⟨h.b.trans ⟨G.os, G.tape, G.output, G.size, fun k hk => G.block k (by have := h.b.size; omega) (fun e => by have := r k e.symm; omega)⟩, h.d.grown G (fun e => by have := r _ e; omega), h.w0.grown G (fun e => by have := r _ e; omega), h.x0.grown G (fun e => by have := h.tx _ e; omega), h.g0.grown G (fun e => by have := h.tx _ e; omega), h.ow.grown G (fun k e1 e2 => by have := h.tw k e1; have := r k e2; omega), O, h.og.grown G (fun k e1 e2 => by have := (h.og.lt k e1).1; have := h.tx k e2; omega), h.tw, h.tx, h.tg, h.o1, h.o2, h.o3⟩
theorem markG {lg' : List ByteArray} (h : Sg w wi vD vw vx vg bw bx bg lw lx lg) (O : ROwns wj (bx + 1) 9 vg (sc lg')) (G : wi.grownBy wj vg.ownBlock) : Sg w wj vD vw vx vg bw bx bg lw lx lg' := by
  have r := fun k hk => (h.og.lt k hk).1
  have o1 := h.o1
  have o2 := h.o2
  have o3 := h.o3
  refine ⟨h.b.trans ⟨G.os, G.tape, G.output, G.size, fun k hk => G.block k (by have := h.b.size; omega) (fun e => by have := r k e.symm; omega)⟩, h.d.grown G (fun e => by have := r _ e; omega), h.w0.grown G (fun e => by have := r _ e; omega), h.x0.grown G (fun e => by have := r _ e; omega), h.g0.grown G (fun e => by have := h.tg _ e; omega), h.ow.grown G (fun k e1 e2 => by have := h.tw k e1; have := r k e2; omega), h.ox.grown G (fun k e1 e2 => by have := h.tx k e1; have := r k e2; omega), O, h.tw, h.tx, h.tg, h.o1, h.o2, h.o3⟩
end Sg
end Go.Proofs.Ytohmppcgbecifaa.Kit
namespace Go.Proofs.Ytohmppcgbecifaa.fnExactWriteUnit
open Go.RowKit Kit

set_option maxHeartbeats 3200000 in
theorem walk (v : Value) (xs : List ByteArray) (u : Int) (s : ByteArray) (w : World) (hv : RSt w v xs) (hlen : xs.length ≤ maxLen) (hbig : ∀ (j : Nat) (h : j < xs.length), xs[j].size ≤ maxLen) (_hu : (Lit.int .i64 u).wf = true) (_hz : s.size ≤ maxLen) :
    Calls Try.prog 7 #[.agg #[v], .int .i64 u, .string s] w fun e w' => e = .returned (.bool true) ∧ Below w.heap.size w w' := by
  have HV := hide hv
  have HG := hide (And.intro hlen hbig)
  obtain ⟨a, c, rfl⟩ := hv.form
  clear hv hlen hbig
  by_cases h20 : 1048576 < s.size
  · go_enter Try.func7, Try.ntmps7
    go_wp2
    go_ret
    exact ⟨rfl, (Below.refl _ w).alloc (Nat.le_refl _) _⟩
  have hz : s.size ≤ 1048576 := by omega
  go_enter Try.func7, Try.ntmps7
  go_wp2_with fail
  refine (szD_any _ xs _ (HV.out.alloc _) HG.out.1 HG.out.2).mono ?_
  rintro e w1 ⟨r, rfl, hr, B1⟩
  have X1 : AtO 29 w1 w.heap.size (.slice a xs.length c) := (AtO.new 29 w _).below B1 (by simp)
  have b1 : Below w.heap.size w w1 := ((Below.refl _ w).alloc (Nat.le_refl _) _).trans (B1.mono (by simp))
  have c0 := X1.cell
  have m1 := X1.lt
  have H1 := hide (And.intro X1 b1)
  clear B1 X1 b1 HG
  rcases hr with rfl | hr
  · go_wp2
    go_ret
    exact ⟨rfl, H1.out.2⟩
  obtain ⟨hr0, hr1, hx, hsz⟩ := hr
  obtain ⟨ys, hys⟩ : ∃ ys, wr xs u s = ys := ⟨_, rfl⟩
  obtain ⟨ok, hok⟩ : ∃ ok, okW xs u s = ok := ⟨_, rfl⟩
  have hyl : ys.length = xs.length := by rw [← hys, wr_length]
  have hy : ys.length ≤ 1048576 := by omega
  obtain ⟨n, hn⟩ : ∃ n, 1 + xs.length = n := ⟨_, rfl⟩
  have hn2 : n ≤ 10000000 := by omega
  have hn0 : ¬ (n : Int) < 0 := by omega
  have C1 := hide (fun (v : Value) (w : World) (hv : RSt w v xs) => specWrite_any v xs u s w hv hx hsz hz)
  have C2 := hide (fun (v : Value) (w : World) (hv : RSt w v xs) => implWrite_any v xs u s w hv hx hsz hz)
  have CT := hide (fun (v : Value) (w : World) (hv : RSt w v xs) => toD_any v xs w hv hx)
  have CE := hide (fun (u v : Value) (w : World) (h1 : RSt w u ys) (h2 : RSt w v ys) => eqD_same u v ys w h1 h2 (by omega))
  have CX := hide (fun (u v : Value) (w : World) (h1 : RSt w u xs) (h2 : RSt w v xs) => eqD_same u v xs w h1 h2 (by omega))
  have CM := hide (fun (v : Value) (base : Nat) (w : World) (ha : ROwns w base 9 v (sc xs)) => markD_any v xs base 1 w ha (by decide) (by decide) (by omega))
  have CN := hide (fun (v : Value) (base : Nat) (w : World) (ha : ROwns w base 9 v (sc ys)) => markD_any v ys base 1 w ha (by decide) (by decide) (by omega))
  have CH := hide (fun (v : Value) (base : Nat) (w : World) (ha : ROwns w base 9 v (sc (marks 1 ys.length))) => heldD_any v ys.length base 1 w ha (by decide) (by decide) (by omega))
  rw [hys, hok] at C1 C2
  rw [hyl, hn] at CN
  rw [hyl, hn] at CH
  rw [hn] at CM
  have HYL := hide hyl
  clear hys hok hsz hn hyl hy
  have n1 : ¬ r < 0 := by omega
  go_wp2_with fail
  refine (CT.out _ w1 (HV.out.below H1.out.2 (Nat.le_refl _))).mono ?_
  rintro e w2 ⟨v2, rfl, O2, B2⟩
  obtain ⟨s2, t2, rfl⟩ := O2.rst.form
  have R2 := hide O2
  have H2 := hide (And.intro (H1.out.1.below B2 H1.out.1.lt) (H1.out.2.trans (B2.mono H1.out.2.size)))
  clear O2 B2 H1 c0 m1 n1 hr0 hr1
  go_wp2_with fail
  refine (C1.out _ w2 R2.out.rst).mono ?_
  rintro e w3 ⟨vw, rfl, O3, B3⟩
  obtain ⟨s3, t3, rfl⟩ := O3.rst.form
  rw [HYL.out] at O3 ⊢
  have X3 := H2.out.1.below B3 H2.out.1.lt
  have b3 := H2.out.2.trans (B3.mono H2.out.2.size)
  have m3 : w.heap.size < w2.heap.size := H2.out.1.lt
  have m4 := B3.size
  have T3 := O3.lt
  have Q3 := hide (And.intro (O3.base_le (base' := w.heap.size + 1) (by omega)) (And.intro X3 (And.intro b3 T3)))
  have X3' := X3.alloc (.cells #[.slice s3 xs.length t3] 32)
  have c0 := X3'.cell
  have l0 := X3'.lt
  obtain ⟨W3, hW3⟩ : ∃ W3, w3.alloc (.cells #[.slice s3 xs.length t3] 32) = W3 := ⟨_, rfl⟩
  rw [hW3] at c0 l0 X3'
  clear O3 B3 X3 b3 T3 H2 R2 X3'
  go_wp2_with fail
  have bW3 : Below w.heap.size w W3 := by rw [← hW3]; exact Q3.out.2.2.1.alloc Q3.out.2.2.1.size _
  have zW3 : W3.heap.size = w3.heap.size + 1 := by rw [← hW3]; simp
  have A3 : AtO 32 W3 w3.heap.size (.slice s3 xs.length t3) := by rw [← hW3]; exact AtO.new 32 w3 _
  have D3 : AtO 29 W3 w.heap.size (.slice a xs.length c) := by rw [← hW3]; exact Q3.out.2.1.alloc _
  have P3 : ROwns W3 (w.heap.size + 1) 9 (.slice s3 xs.length t3) (sc ys) := by rw [← hW3]; exact Q3.out.1.alloc _
  have T3 := Q3.out.2.2.2
  have hw3 : w.heap.size < w3.heap.size := Q3.out.2.1.lt
  have HH3 := hide (And.intro bW3 (And.intro zW3 (And.intro A3 (And.intro D3 (And.intro P3 T3)))))
  clear bW3 zW3 A3 D3 P3 T3 Q3 hW3 m3 m4
  refine (CT.out _ W3 (HV.out.below HH3.out.1 (Nat.le_refl _))).mono ?_
  rintro e w4 ⟨vx, rfl, O4, B4⟩
  obtain ⟨s4, t4, rfl⟩ := O4.rst.form
  have b4 := HH3.out.1.trans (B4.mono HH3.out.1.size)
  have D4 := HH3.out.2.2.2.1.below B4 HH3.out.2.2.2.1.lt
  have A4 := HH3.out.2.2.1.below B4 HH3.out.2.2.1.lt
  have P4 := HH3.out.2.2.2.2.1.below B4 (Nat.le_refl _)
  have l34 : w3.heap.size < w4.heap.size := A4.lt
  have O4' : ROwns w4 (w3.heap.size + 1) 9 (.slice s4 xs.length t4) (sc xs) := by have := O4; rwa [HH3.out.2.1] at this
  have T4 := fun k hk => (O4.lt k hk).2
  have HH4 := hide (And.intro b4 (And.intro D4 (And.intro A4 (And.intro P4 (And.intro O4' T4)))))
  have HT3 := hide HH3.out.2.2.2.2.2
  clear b4 D4 A4 P4 O4 O4' T4 B4 HH3 c0 l0
  go_wp2_with fail
  refine (C2.out _ _ (HH4.out.2.2.2.2.1.alloc _).rst).mono ?_
  rintro e w5 ⟨vg, rfl, O5, B5⟩
  obtain ⟨s5, t5, rfl⟩ := O5.rst.form
  rw [HYL.out] at O5 ⊢
  have S5 : Hid (Sg w (w5.alloc (.cells #[.slice s5 xs.length t5] 32)) (.slice a xs.length c) (.slice s3 xs.length t3) (.slice s4 xs.length t4) (.slice s5 xs.length t5) w3.heap.size w4.heap.size w5.heap.size ys xs ys) := by
    have z4 : (w4.alloc (.cells #[.slice s4 xs.length t4] 32)).heap.size = w4.heap.size + 1 := by simp
    have z5 := B5.size
    rw [z4] at z5
    have O5' : ROwns w5 (w4.heap.size + 1) 9 (.slice s5 xs.length t5) (sc ys) := O5.base_le (by omega)
    refine ⟨?_, ?_, ?_, ?_, AtO.new 32 w5 _, ?_, ?_, O5'.alloc _, ?_, HH4.out.2.2.2.2.2, fun k hk => (O5.lt k hk).2, hw3, l34, by omega⟩
    · exact (((HH4.out.1.alloc HH4.out.1.size _).trans (B5.mono (by rw [z4]; have := HH4.out.1.size; omega)))).alloc (by have := HH4.out.1.size; omega) _
    · exact ((HH4.out.2.1.alloc _).below B5 (by rw [z4]; have := HH4.out.2.1.lt; omega)).alloc _
    · exact ((HH4.out.2.2.1.alloc _).below B5 (by rw [z4]; omega)).alloc _
    · exact ((AtO.new 32 w4 _).below B5 (by rw [z4]; omega)).alloc _
    · exact ((HH4.out.2.2.2.1.alloc _).below B5 (Nat.le_refl _)).alloc _
    · exact ((HH4.out.2.2.2.2.1.alloc _).below B5 (Nat.le_refl _)).alloc _
    · exact fun k hk => (HT3.out k hk).2
  have b6 := S5.out.b
  obtain ⟨w6, hw6⟩ : ∃ w6, w5.alloc (.cells #[.slice s5 xs.length t5] 32) = w6 := ⟨_, rfl⟩
  rw [hw6] at S5
  have cd := S5.out.d.cell
  have cw := S5.out.w0.cell
  have cx := S5.out.x0.cell
  have cg := S5.out.g0.cell
  have ld := S5.out.d.lt
  have lw := S5.out.w0.lt
  have lx := S5.out.x0.lt
  have lg := S5.out.g0.lt
  clear O5 B5 HH4 HT3 hw3 l34 b6
  go_wp2_with fail
  clear hw6
  refine (CE.out _ _ w6 S5.out.og.rst S5.out.ow.rst).mono ?_
  rintro e w7 ⟨rfl, B7⟩
  have S7 := hide (S5.out.below B7)
  have HS : Hid (∀ w', Below w7.heap.size w7 w' → w'.cell? ⟨w.heap.size, 0, none⟩ = some (.slice a xs.length c) ∧ w'.cell? ⟨w4.heap.size, 0, none⟩ = some (.slice s4 xs.length t4)) := fun w' hb =>
    ⟨(S7.out.below hb).d.cell, (S7.out.below hb).x0.cell⟩
  clear cd cw cx cg ld lw lx lg S5 B7
  have cd := S7.out.d.cell
  have cx := S7.out.x0.cell
  go_wp2
  go_region_held3 (fun w' => w'.cell? ⟨w.heap.size, 0, none⟩ = some (.slice a xs.length c) ∧ w'.cell? ⟨w4.heap.size, 0, none⟩ = some (.slice s4 xs.length t4)) (first | exact HS.out _ (Below.refl _ _).drew | exact HS.out _ (of_drew B8) | exact HS.out _ ((of_drew B8).trans (B9.mono (of_drew B8).size))) (first | (go_at_call 14; refine (CT.out _ _ (RSt.drew (HV.out.below S7.out.b (Nat.le_refl _)))).mono ?_; rintro e w8 ⟨v8, rfl, O8, B8⟩; obtain ⟨s8, t8, rfl⟩ := O8.rst.form) | (go_at_call 16; refine (CX.out _ _ _ (S7.out.ox.below (of_drew B8) (Nat.le_refl _)).rst O8.rst).mono ?_; rintro e w9 ⟨rfl, B9⟩))
  have S9 := hide (S7.out.below ((of_drew B8).trans (B9.mono (of_drew B8).size)))
  clear B8 B9 O8 S7 HS cd cx
  have cx := S9.out.x0.cell
  have lx := S9.out.x0.lt
  go_wp2_with fail
  refine (CM.out _ _ w9 S9.out.ox).mono ?_
  rintro e w10 ⟨rfl, O10, G10⟩
  have S10 := hide (S9.out.markX O10 G10)
  clear O10 G10 S9 cx lx
  have cw := S10.out.w0.cell
  have cg := S10.out.g0.cell
  have lw := S10.out.w0.lt
  have lg := S10.out.g0.lt
  go_wp2_with fail
  refine (CE.out _ _ w10 S10.out.og.rst S10.out.ow.rst).mono ?_
  rintro e w11 ⟨rfl, B11⟩
  have S11 := hide (S10.out.below B11)
  clear B11 S10 cw cg lw lg
  have cg := S11.out.g0.cell
  have lg := S11.out.g0.lt
  go_wp2_with fail
  refine (CN.out _ _ w11 S11.out.og).mono ?_
  rintro e w12 ⟨rfl, O12, G12⟩
  have S12 := hide (S11.out.markG O12 G12)
  clear O12 G12 S11 cg lg
  have cg := S12.out.g0.cell
  have lg := S12.out.g0.lt
  go_wp2_with fail
  refine (CH.out _ _ w12 S12.out.og).mono ?_
  rintro e w13 ⟨rfl, B13⟩
  have S13 := hide (S12.out.below B13)
  clear B13 S12 cg lg
  have cd := S13.out.d.cell
  have ld := S13.out.d.lt
  go_wp2_with fail
  refine (CT.out _ w13 (HV.out.below S13.out.b (Nat.le_refl _))).mono ?_
  rintro e w14 ⟨v14, rfl, O14, B14⟩
  obtain ⟨s14, t14, rfl⟩ := O14.rst.form
  have S14 := hide (S13.out.below B14)
  have R14 := hide O14
  clear B14 S13 O14 cd ld
  go_wp2_with fail
  refine (C2.out _ w14 R14.out.rst).mono ?_
  rintro e w15 ⟨v15, rfl, O15, B15⟩
  obtain ⟨s15, t15, rfl⟩ := O15.rst.form
  rw [HYL.out] at O15 ⊢
  have S15 := hide (S14.out.below B15)
  have R15 := hide O15
  clear B15 S14 O15 R14
  have cw := (S15.out.alloc (.cells #[.slice s15 xs.length t15] 32)).w0.cell
  have lw := (S15.out.alloc (.cells #[.slice s15 xs.length t15] 32)).w0.lt
  have ch := (AtO.new 32 w15 (.slice s15 xs.length t15)).cell
  have lh := (AtO.new 32 w15 (.slice s15 xs.length t15)).lt
  have S16 := hide (S15.out.alloc (.cells #[.slice s15 xs.length t15] 32))
  have R16 := hide (R15.out.alloc (.cells #[.slice s15 xs.length t15] 32))
  obtain ⟨w16, hw16⟩ : ∃ w16, w15.alloc (.cells #[.slice s15 xs.length t15] 32) = w16 := ⟨_, rfl⟩
  rw [hw16] at cw lw ch lh S16 R16
  clear S15 R15
  go_wp2_with fail
  clear hw16
  refine (CE.out _ _ w16 R16.out.rst S16.out.ow.rst).mono ?_
  rintro e w17 ⟨rfl, B17⟩
  have S17 := hide (S16.out.below B17)
  clear B17 S16 R16 cw lw ch lh
  have cg := S17.out.g0.cell
  have lg := S17.out.g0.lt
  go_wp2_with fail
  refine (CH.out _ _ w17 S17.out.og).mono ?_
  rintro e w18 ⟨rfl, B18⟩
  have S18 := hide (S17.out.below B18)
  clear B18 S17 cg lg
  go_wp2
  go_ret
  exact ⟨rfl, S18.out.b⟩
end Go.Proofs.Ytohmppcgbecifaa.fnExactWriteUnit
