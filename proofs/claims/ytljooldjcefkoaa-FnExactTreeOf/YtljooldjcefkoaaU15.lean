/- Texts of the proof, bundled: It, Ww, Ts5. -/
import Derived.Deep.RegionHeld3
import Derived.Deep.RegionWith
import Derived.BigRegion
import Derived.Test.YtljooldjcefkoaaU14
import Derived.Test.YtljooldjcefkoaaU12
/- impl.TreeOf by its contract. -/
namespace Go.Proofs.Ytljooldjcefkoaa
open Go.RowKit Kit
theorem atC_apart {w : World} {a b : Nat} {S T : TypeId} {xs ys : Array Value} (h : AtC w a S xs) (h' : AtC w b T ys) (hn : S ≠ T) : a ≠ b := fun e => by
  subst e
  have := h.symm.trans h'
  simp only [Option.some.injEq, Obj.cells.injEq] at this
  exact hn this.2.1
set_option maxRecDepth 100000 in
set_option maxHeartbeats 3200000 in
theorem implTree_any (dx dy iv bv : Value) (xs ys : List Bool) (is : List Ino) (bs : List Blk) (w : World) (h : DR w dx dy iv bv xs ys is bs) (hG : Big 1048576 xs ys is bs) :
    Calls Try.prog 7 #[.agg #[dx, dy, iv, bv]] w fun e w' => ∃ v l, e = .returned v ∧ NdO w' w.heap.size v l ∧ Below w.heap.size w w' ∧ (diskOk xs ys is bs = false → l = []) ∧ (diskOk xs ys is bs = true → l = tellI is bs 4 1 ⟨#[]⟩) := by
  obtain ⟨a1, c1, a2, c2, a3, c3, a4, c4, rfl, rfl, rfl, rfl⟩ := h.form
  have HH := hide h
  have CO := hide (fun W hd => implOk_disk (.slice a1 xs.length c1) (.slice a2 ys.length c2) (.slice a3 is.length c3) (.slice a4 bs.length c4) xs ys is bs W hd hG.i hG.b)
  have HB0 : Hid (Below w.heap.size w (w.alloc (.cells #[.slice a1 xs.length c1, .slice a2 ys.length c2, .slice a3 is.length c3, .slice a4 bs.length c4] 36))) := (Below.refl _ w).alloc (Nat.le_refl _) _
  have HX0 := hide (AtC.new w 36 #[.slice a1 xs.length c1, .slice a2 ys.length c2, .slice a3 is.length c3, .slice a4 bs.length c4])
  have hmf : ∀ (fn : Fn) (first cap : Array Value) (w : World), (Instr.makeFunc fn first cap).run Try.prog w = .ok (.func fn first cap) w := fun _ _ _ _ => rfl
  clear h hG
  cases hok : diskOk xs ys is bs with
  | false =>
    rw [hok] at CO
    clear hok
    go_enter Try.func7, Try.ntmps7
    go_wp2_with fail
    refine (CO.out _ (HH.out.alloc _)).mono ?_
    rintro e w1 ⟨rfl, B1⟩
    have HB1 := hide (HB0.out.trans (B1.mono HB0.out.size))
    clear B1
    go_wp2
    go_ret
    exact ⟨_, [], rfl, NdO.nil _ _, HB1.out, (fun _ => rfl), (fun e => by cases e)⟩
  | true =>
    rw [hok] at CO
    have HR := hide (RD.of_ok hok)
    clear hok
    go_enter Try.func7, Try.ntmps7
    go_wp2_with fail
    refine (CO.out _ (HH.out.alloc _)).mono ?_
    rintro e w1 ⟨rfl, B1⟩
    have HB1 := hide (HB0.out.trans (B1.mono HB0.out.size))
    have HX1 := hide (HX0.out.over B1)
    clear B1 HX0 HB0
    go_upto_region 6 with fail
    obtain ⟨W, hW⟩ : ∃ W, ((w1.alloc (.cells #[.slice none 0 0] 30)).alloc (.cells #[.func (.func 23) #[] #[.pointer (some ⟨w.heap.size, 0, none⟩), .pointer (some ⟨w1.heap.size, 0, none⟩), .pointer (some ⟨w1.heap.size + 1, 0, none⟩)]] 55)) = W := ⟨_, rfl⟩
    rw [hW]
    have hWD : AtC W w.heap.size 36 #[.slice a1 xs.length c1, .slice a2 ys.length c2, .slice a3 is.length c3, .slice a4 bs.length c4] ∧ AtC W w1.heap.size 30 #[.slice none 0 0] ∧ AtC W (w1.heap.size + 1) 55 #[.func (.func 23) #[] #[.pointer (some ⟨w.heap.size, 0, none⟩), .pointer (some ⟨w1.heap.size, 0, none⟩), .pointer (some ⟨w1.heap.size + 1, 0, none⟩)]] ∧ Below w.heap.size w W ∧ w1.heap.size + 2 = W.heap.size := by
      rw [← hW]
      have a := AtC.new (w1.alloc (.cells #[.slice none 0 0] 30)) 55 #[.func (.func 23) #[] #[.pointer (some ⟨w.heap.size, 0, none⟩), .pointer (some ⟨w1.heap.size, 0, none⟩), .pointer (some ⟨w1.heap.size + 1, 0, none⟩)]]
      rw [World.size_alloc] at a
      exact ⟨(HX1.out.alloc _).alloc _, (AtC.new w1 30 _).alloc _, a, (HB1.out.alloc HB1.out.size _).alloc (by have := HB1.out.size; simp; omega) _, by simp⟩
    have HWD := hide hWD
    have z0 : W.cell? ⟨w.heap.size, 0, none⟩ = some (.slice a1 xs.length c1) := hWD.1.cell 0
    have z1 : W.cell? ⟨w.heap.size, 1, none⟩ = some (.slice a2 ys.length c2) := hWD.1.cell 1
    have z2 : W.cell? ⟨w.heap.size, 2, none⟩ = some (.slice a3 is.length c3) := hWD.1.cell 2
    have z3 : W.cell? ⟨w.heap.size, 3, none⟩ = some (.slice a4 bs.length c4) := hWD.1.cell 3
    have g0 : W.cell? ⟨w1.heap.size + 1, 0, none⟩ = some (.func (.func 23) #[] #[.pointer (some ⟨w.heap.size, 0, none⟩), .pointer (some ⟨w1.heap.size, 0, none⟩), .pointer (some ⟨w1.heap.size + 1, 0, none⟩)]) := hWD.2.2.1.cell 0
    have CBR := hide (fun (V : World) (hv : Below W.heap.size W V) => branches_any (.slice a1 xs.length c1) (.slice a2 ys.length c2) (.slice a3 is.length c3) (.slice a4 bs.length c4) xs ys is bs V (HH.out.below (hWD.2.2.2.1.trans (hv.mono hWD.2.2.2.1.size)) (Nat.le_refl _)) HR.out)
    have CTE : Hid (∀ (V w3 : World) (bk : Nat) (v : Value), Below W.heap.size W V → AtC w3 bk 58 #[.string ⟨#[]⟩, .int .i64 1, .pointer none, v] → Grn is bs 4 w3 V.heap.size 1 v → Below V.heap.size V w3 → Calls Try.prog 23 #[.pointer (some ⟨bk, 0, none⟩), .string ⟨#[]⟩, .pointer (some ⟨w.heap.size, 0, none⟩), .pointer (some ⟨w1.heap.size, 0, none⟩), .pointer (some ⟨w1.heap.size + 1, 0, none⟩)] w3 fun e w' => e = .returned (.tuple #[]) ∧ Tl w3 w' w1.heap.size (tellI is bs 4 1 ⟨#[]⟩) ∧ Below w.heap.size w w3) := fun V w3 bk v hv hA hG hb => by
      obtain ⟨d1, d2, d3, d4, d5⟩ := HWD.out
      have b3 : Below W.heap.size W w3 := hv.trans (hb.mono hv.size)
      have bw : Below w.heap.size w w3 := d4.trans (b3.mono d4.size)
      have l2 := d2.over b3
      have s1 := hv.size
      have s2 := HB1.out.size
      have := tell_any (.slice a1 xs.length c1) (.slice a2 ys.length c2) (.slice a3 is.length c3) (.slice a4 bs.length c4) xs ys is bs HR.out w w3 HH.out bw w.heap.size w1.heap.size (w1.heap.size + 1) V.heap.size (d1.over b3) (d3.over b3) l2.lt (by omega) (atC_apart (d1.over b3) l2 (by decide)) (by omega) (by omega) 4 0 rfl bk ⟨#[]⟩ 1 none v ⟨#[]⟩ [] w3 hA (atC_apart hA l2 (by decide)) hG (Nat.zero_le _) (Nat.zero_le _) ⟨Chg.refl _ _, _, l2, NdO.nil _ _⟩
      rw [List.nil_append] at this
      exact this.mono fun e w' hh => ⟨hh.1, hh.2, bw⟩
    clear hWD hW hmf
    go_region_with (first | (go_at_call 26; refine (CBR.out _ (Below.refl _ _).drew).mono ?_; rintro e w3 ⟨bk, v3, rfl, A3, G3, B3⟩; have HTE := hide (CTE.out _ _ _ _ (Below.refl _ _).drew A3 G3 B3); have g0 : w3.cell? ⟨w1.heap.size + 1, 0, none⟩ = some (.func (.func 23) #[] #[.pointer (some ⟨w.heap.size, 0, none⟩), .pointer (some ⟨w1.heap.size, 0, none⟩), .pointer (some ⟨w1.heap.size + 1, 0, none⟩)]) := ((HWD.out.2.2.1.over (of_drew B3)).cell 0)) | (go_at_call 23; refine HTE.out.mono ?_; rintro e w4 ⟨rfl, T4, B4⟩))
    all_goals
      obtain ⟨lv, L1, N1⟩ := T4.l
      obtain ⟨la, lc, rfl⟩ := N1.form
      obtain ⟨RL, hRL⟩ : ∃ r, tellI is bs 4 1 ⟨#[]⟩ = r := ⟨_, rfl⟩
      rw [hRL] at N1 L1
      have k0 : w4.cell? ⟨w1.heap.size, 0, none⟩ = some (.slice la RL.length lc) := L1.cell 0
      have HF : Hid (NdO w4 w.heap.size (.slice la RL.length lc) RL ∧ Below w.heap.size w w4) := ⟨N1.mono B4.size, B4.trans (T4.g.below B4.size (fun k hk => by rw [hk]; exact HB1.out.size))⟩
      have HRL := hide hRL
      clear T4 L1 N1 B4 hRL HTE A3 G3 B3
      go_wp2
      go_ret
      exact ⟨_, RL, rfl, HF.out.1, HF.out.2, (fun e => by cases e), fun _ => HRL.out.symm⟩
end Go.Proofs.Ytljooldjcefkoaa
/- Of the specification: l14Walk by its contract. -/
namespace Go.Proofs.Ytljooldjcefkoaa.Kit
open Go.RowKit
theorem stc_at {w : World} {B : Nat} {v : Value} {l : List ByteArray} (h : ROwns w B 9 v (stc l)) (j : Nat) (hj : j < l.length) : ∃ g c, v = .slice (some ⟨g, 0, none⟩) l.length c ∧ w.cell? ⟨g, j, none⟩ = some (.string l[j]) ∧ g < w.heap.size := by
  obtain ⟨g, c, e, h1, -, -, h4, -⟩ := h.at j (by rw [stc_length]; exact hj)
  rw [stc_length] at e
  exact ⟨g, c, e, h1.trans (by simp [stc, hj]), h4⟩
theorem stc_form {w : World} {B : Nat} {v : Value} {l : List ByteArray} (h : ROwns w B 9 v (stc l)) : ∃ a c, v = .slice a l.length c := by
  obtain ⟨a, c, e, -⟩ := h.form
  rw [stc_length] at e
  exact ⟨a, c, e⟩
/-- A walk under way: names, nodes and names that were seen, each in memory of its own. -/
structure WkR (w wr : World) (D : Array Value) (nv ov sv : Value) (nl : List ByteArray) (ol : List Nd) (sl : List ByteArray) : Prop where
  b : Below w.heap.size w wr
  d : AtC wr w.heap.size 36 D
  n : ROwns wr (w.heap.size + 1) 9 nv (stc nl)
  o : NdO wr (w.heap.size + 1) ov ol
  s : ROwns wr (w.heap.size + 1) 9 sv (stc sl)
  no : ∀ k, ov.ownBlock = some k → nv.ownBlock ≠ some k
  ns : ∀ k, sv.ownBlock = some k → nv.ownBlock ≠ some k
  os : ∀ k, sv.ownBlock = some k → ov.ownBlock ≠ some k
namespace WkR
variable {w wr wr' : World} {D : Array Value} {nv ov sv ov' sv' : Value} {nl : List ByteArray} {ol ol' : List Nd} {sl sl' : List ByteArray}
theorem below (h : WkR w wr D nv ov sv nl ol sl) (hb : Below wr.heap.size wr wr') : WkR w wr' D nv ov sv nl ol sl :=
  ⟨h.b.trans (hb.mono h.b.size), h.d.over hb, h.n.below hb (Nat.le_refl _), h.o.below hb, h.s.below hb (Nat.le_refl _), h.no, h.ns, h.os⟩
theorem sz (h : WkR w wr D nv ov sv nl ol sl) : w.heap.size + 1 ≤ wr.heap.size := h.d.lt
theorem appO (h : WkR w wr D nv ov sv nl ol sl) (ho : NdO wr' (w.heap.size + 1) ov' ol') (hg : wr.grownBy wr' ov.ownBlock) (hv : ∀ k, ov'.ownBlock = some k → ov.ownBlock = some k ∨ wr.heap.size ≤ k) : WkR w wr' D nv ov' sv nl ol' sl :=
  ⟨h.b.grown hg h.b.size (fun k hk => by have := (h.o.lt k hk).1; omega), h.d.grown hg (fun e => by have := (h.o.lt _ e).1; omega), h.n.grown hg (fun k hk e => h.no k e hk), ho, h.s.grown hg (fun k hk e => h.os k hk e),
   fun k hk e => (hv k hk).elim (fun q => h.no k q e) (fun q => by have := (h.n.lt k e).2; omega), h.ns, fun k hk e => (hv k e).elim (fun q => h.os k hk q) (fun q => by have := (h.s.lt k hk).2; omega)⟩
theorem appS (h : WkR w wr D nv ov sv nl ol sl) (hs : ROwns wr' (w.heap.size + 1) 9 sv' (stc sl')) (hg : wr.grownBy wr' sv.ownBlock) (hv : ∀ k, sv'.ownBlock = some k → sv.ownBlock = some k ∨ wr.heap.size ≤ k) : WkR w wr' D nv ov sv' nl ol sl' :=
  ⟨h.b.grown hg h.b.size (fun k hk => by have := (h.s.lt k hk).1; omega), h.d.grown hg (fun e => by have := (h.s.lt _ e).1; omega), h.n.grown hg (fun k hk e => h.ns k e hk), h.o.of_heap (fun k hk => hg.block k (h.o.lt k hk).2 (fun e => h.os k e.symm hk)), hs,
   h.no, fun k hk e => (hv k hk).elim (fun q => h.ns k q e) (fun q => by have := (h.n.lt k e).2; omega), fun k hk e => (hv k hk).elim (fun q => h.os k q e) (fun q => by have := (h.o.lt k e).2; omega)⟩
theorem set (h : WkR w wr D nv ov sv nl ol sl) {bx : Nat} (hb : w.heap.size + 1 ≤ bx) (hn : ∀ k, (nv.ownBlock = some k ∨ ov.ownBlock = some k ∨ sv.ownBlock = some k) → k ≠ bx) (j : Nat) (u : Value) : WkR w (wr.setCell ⟨bx, j, none⟩ u) D nv ov sv nl ol sl :=
  have hh : ∀ k, k ≠ bx → (wr.setCell ⟨bx, j, none⟩ u).heap[k]? = wr.heap[k]? := fun k hk => heap_setCell_other wr ⟨bx, j, none⟩ k u hk
  ⟨h.b.setCell (p := ⟨bx, j, none⟩) (by show w.heap.size ≤ bx; omega) u, (hh _ (by omega)).trans h.d, h.n.of_heap (fun k hk => hh k (hn k (.inl hk))), h.o.of_heap (fun k hk => hh k (hn k (.inr (.inl hk)))), h.s.of_heap (fun k hk => hh k (hn k (.inr (.inr hk)))), h.no, h.ns, h.os⟩
theorem lts (h : WkR w wr D nv ov sv nl ol sl) : ∀ k, (nv.ownBlock = some k ∨ ov.ownBlock = some k ∨ sv.ownBlock = some k) → k < wr.heap.size := fun k hk => hk.elim (fun e => (h.n.lt k e).2) (fun e => e.elim (fun e => (h.o.lt k e).2) (fun e => (h.s.lt k e).2))
end WkR
end Go.Proofs.Ytljooldjcefkoaa.Kit
namespace Go.Proofs.Ytljooldjcefkoaa
open Go.RowKit Kit
theorem hasN_take {l : List ByteArray} {q : Nat} {nm : ByteArray} (h : q < l.length) : hasN (l.take (q + 1)) nm = (hasN (l.take q) nm || decide (l[q] = nm)) := by
  unfold hasN
  rw [List.take_succ_eq_append_getElem h, List.any_append, List.any_cons, List.any_nil, Bool.or_false]
theorem beq_dec (a b : ByteArray) : (a.toList == b.toList) = decide (a = b) := by
  by_cases h : a = b
  · subst h; simp
  · rw [beq_false h]; simp [h]
theorem findI_at {ns : List Sl} {k : Nat} (h : k < ns.length) (hn : hasN ((ns.take k).map (·.1)) ns[k].1 = false) : findI ns ns[k].1 = ns[k].2 := by
  have e : ns = ns.take k ++ ns[k] :: ns.drop (k + 1) := by rw [← List.drop_eq_getElem_cons h, List.take_append_drop]
  have h2 : findI (ns.take k ++ ns[k] :: ns.drop (k + 1)) ns[k].1 = ns[k].2 := by
    rw [findI_append, findI, if_pos rfl]
    intro s hs e
    have : ns[k].1 ∈ (ns.take k).map (·.1) := by rw [← e]; exact List.mem_map_of_mem hs
    rw [hasN_iff.2 this] at hn
    cases hn
  rw [← e] at h2
  exact h2
set_option maxRecDepth 100000 in
set_option maxHeartbeats 6400000 in
theorem walkS_any (dx dy iv bv : Value) (xs ys : List Bool) (is : List Ino) (bs : List Blk) (hR : RD is bs) (hG : Big 1048576 xs ys is bs) : ∀ (n D : Nat), D + n = 4 → ∀ (i : Int) (path : ByteArray) (w : World), DR w dx dy iv bv xs ys is bs → path.size ≤ 7 * D →
    Calls Try.prog 18 #[.agg #[dx, dy, iv, bv], .int .i64 i, .string path, .int .i64 (D : Int)] w fun e w' => ∃ v, e = .returned v ∧ NdO w' w.heap.size v (walkS is bs n i path) ∧ Below w.heap.size w w' := by
  intro n
  induction n with
  | zero =>
    intro D hn i path w h hp
    have hD : D = 4 := by omega
    subst hD
    have HL : Hid (∀ A, NdO ((w.alloc (.cells A 36)).alloc (.cells #[] 61)) w.heap.size (.slice (some ⟨w.heap.size + 1, 0, none⟩) 0 0) [] ∧ Below w.heap.size w ((w.alloc (.cells A 36)).alloc (.cells #[] 61))) := fun A => by
      have := NdO.lit0 (w.alloc (.cells A 36))
      rw [World.size_alloc] at this
      exact ⟨this.mono (by omega), ((Below.refl _ w).alloc (Nat.le_refl _) _).alloc (by simp) _⟩
    go_enter Try.func18, Try.ntmps18
    go_wp2
    go_ret
    exact ⟨_, rfl, (HL.out _).1, (HL.out _).2⟩
  | succ n ih =>
    intro D hn i path w h hp
    have IH := hide ih
    obtain ⟨a1, c1, a2, c2, a3, c3, a4, c4, rfl, rfl, rfl, rfl⟩ := h.form
    have HH := hide h
    have HRD := hide hR
    have HG := hide hG
    have hD4 : (D : Int) < 4 := by omega
    have HP := hide hp
    have HNM : Hid (∀ s ∈ named is bs i, s.1.size ≤ 6 ∧ ¬ s.1 = ⟨#[]⟩) := fun s hs => by
      have := nameOk_size (hR.name hs)
      exact ⟨this.2, size_ne (by omega)⟩
    have HN8 := hide (hR.named8 i)
    have HWS : Hid (walkS is bs (n + 1) i path = (firsts (named is bs i) []).flatMap (tellS is bs (walkS is bs n) path)) := rfl
    have CN := hide (fun W hd => names_any i (.slice a1 xs.length c1) (.slice a2 ys.length c2) (.slice a3 is.length c3) (.slice a4 bs.length c4) xs ys is bs W hd hR.hi (by rw [hR.hb]; decide) (fun q hq => Nat.le_of_eq (hR.two q hq)) hR.four)
    obtain ⟨ns, hns⟩ : ∃ ns, named is bs i = ns := ⟨_, rfl⟩
    obtain ⟨RES, hRES⟩ : ∃ r, walkS is bs (n + 1) i path = r := ⟨_, rfl⟩
    rw [hns] at HNM HN8 HWS CN
    rw [hRES] at HWS ⊢
    have HNS := hide hns
    clear h hR hG hp ih hns hRES
    have hdb : DR ((w.alloc (.cells #[.slice a1 xs.length c1, .slice a2 ys.length c2, .slice a3 is.length c3, .slice a4 bs.length c4] 36)).alloc (.cells #[] 61)) (.slice a1 xs.length c1) (.slice a2 ys.length c2) (.slice a3 is.length c3) (.slice a4 bs.length c4) xs ys is bs := (HH.out.alloc _).alloc _
    have HDB := hide hdb
    clear hdb
    go_enter Try.func18, Try.ntmps18
    go_wp2_with fail
    refine (CN.out _ HDB.out).mono ?_
    rintro e w1 ⟨nv, rfl, N1, B1⟩
    have HW1 : Hid (WkR w (w1.alloc (.cells #[] 9)) #[.slice a1 xs.length c1, .slice a2 ys.length c2, .slice a3 is.length c3, .slice a4 bs.length c4] nv (.slice (some ⟨w.heap.size + 1, 0, none⟩) 0 0) (.slice (some ⟨w1.heap.size, 0, none⟩) 0 0) (ns.map (·.1)) [] []) := by
      have s1 := B1.size
      simp at s1
      have o0 := NdO.lit0 (w.alloc (.cells #[.slice a1 xs.length c1, .slice a2 ys.length c2, .slice a3 is.length c3, .slice a4 bs.length c4] 36))
      rw [World.size_alloc] at o0
      have bb : Below w.heap.size w w1 := (((Below.refl _ w).alloc (Nat.le_refl _) _).alloc (by simp) _).trans (B1.mono (by simp; omega))
      have l0 := ROwns.lit0 w1 (w.heap.size + 1) 9 (by omega)
      have n1 : ROwns w1 (w.heap.size + 1 + 1) 9 nv (stc (ns.map (·.1))) := N1.base_le (by simp)
      refine ⟨bb.alloc bb.size _, (((AtC.new w 36 _).alloc _).over B1).alloc _, (n1.base_le (by omega)).alloc _, (o0.below B1).below ((Below.refl _ _).alloc (Nat.le_refl _) _), l0, fun k hk e => ?_, fun k hk e => ?_, fun k hk e => ?_⟩
      · simp [Value.ownBlock] at hk; have := (n1.lt k e).1; omega
      · simp [Value.ownBlock] at hk; have := (n1.lt k e).2; omega
      · simp [Value.ownBlock] at hk e; omega
    obtain ⟨na, nc, rfl⟩ := stc_form N1
    rw [List.length_map] at *
    clear N1 B1 HDB CN
    go_wp2_with fail
    go_loopw [9, 11, 12] (fun ov sv kv wr => ∃ (o' s' : Value) (k : Nat), o' = ov ∧ s' = sv ∧ k ≤ ns.length ∧ kv = .int .i64 k ∧ Hid (WkR w wr #[.slice a1 xs.length c1, .slice a2 ys.length c2, .slice a3 is.length c3, .slice a4 bs.length c4] (.slice na ns.length nc) o' s' (ns.map (·.1)) ((firsts (ns.take k) []).flatMap (tellS is bs (walkS is bs n) path)) ((ns.take k).map (·.1)))) (fun _ _ kv _ => ns.length - (intOf kv).toNat)
    case atStart => exact ⟨_, _, 0, rfl, rfl, Nat.zero_le _, rfl, HW1.out⟩
    case round =>
      obtain ⟨ov, sv, k, ho, hs, hk, rfl, HR⟩ := hrel
      subst ho hs
      clear HW1
      by_cases hlt : k < ns.length
      rotate_left
      · have k1 : ¬ ((k : Int) < (ns.length : Int)) := by omega
        go_wp2
        go_ret
        refine ⟨_, rfl, ?_, HR.out.b⟩
        have := HR.out.o
        rw [List.take_of_length_le (by omega), ← HWS.out] at this
        exact this.mono (by omega)
      have k1 : (k : Int) < (ns.length : Int) := by omega
      have k0 : (0 : Int) ≤ (k : Int) := by omega
      have k8 : k < 8 := by have := HN8.out; omega
      clear HWS
      obtain ⟨⟨nm, io⟩, hX⟩ : ∃ X, ns[k] = X := ⟨_, rfl⟩
      have HNMK : Hid (nm.size ≤ 6 ∧ ¬ nm = ⟨#[]⟩) := by have := HNM.out ns[k] (List.getElem_mem hlt); rw [hX] at this; exact this
      obtain ⟨gn, cn, e1, -, -⟩ := stc_at HR.out.n k (by rw [List.length_map]; exact hlt)
      rw [List.length_map] at e1
      simp only [Value.slice.injEq, true_and] at e1
      obtain ⟨rfl, rfl⟩ := e1
      have HNC : Hid (∀ W ov sv ol sl, WkR w W #[.slice a1 xs.length c1, .slice a2 ys.length c2, .slice a3 is.length c3, .slice a4 bs.length c4] (.slice (some ⟨gn, 0, none⟩) ns.length nc) ov sv (ns.map (·.1)) ol sl → W.cell? ⟨gn, k, none⟩ = some (.string nm) ∧ gn < W.heap.size) := fun W ov sv ol sl hh => by
        obtain ⟨g, c, e1, e2, e3⟩ := stc_at hh.n k (by rw [List.length_map]; exact hlt)
        simp only [Value.slice.injEq, Option.some.injEq, Addr.mk.injEq, and_true] at e1
        obtain ⟨rfl, -⟩ := e1
        rw [List.getElem_map, hX] at e2
        exact ⟨e2, e3⟩
      have HFT := hide (firsts_take hlt)
      have HMT : Hid ((ns.take (k + 1)).map (·.1) = (ns.take k).map (·.1) ++ [nm]) := by
        show (ns.take (k + 1)).map (·.1) = (ns.take k).map (·.1) ++ [nm]
        rw [List.take_succ_eq_append_getElem hlt, List.map_append, hX]; rfl
      have HFI : Hid (hasN ((ns.take k).map (·.1)) nm = false → findI ns nm = io) := fun hq => by
        have := findI_at hlt (by rw [hX]; exact hq)
        rw [hX] at this
        exact this
      have hslen : ((ns.take k).map (·.1)).length = k := by rw [List.length_map, List.length_take]; omega
      rw [hX] at HFT
      obtain ⟨sl, hsl⟩ : ∃ sl, (ns.take k).map (·.1) = sl := ⟨_, rfl⟩
      obtain ⟨ol, hol⟩ : ∃ ol, (firsts (ns.take k) []).flatMap (tellS is bs (walkS is bs n) path) = ol := ⟨_, rfl⟩
      rw [hsl] at HFT HMT HFI hslen HR
      rw [hol] at HR
      have HOL := hide hol
      have HSL8 : Hid (sl.length ≤ 8) := by show sl.length ≤ 8; omega
      have HOLN : Hid (ol.length ≤ 5000) := by
        have h1 := flatMap_len (m := 1 + deepN n) (firsts (ns.take k) []) (fun s _ => tellS_len (is := is) (bs := bs) (walkS_len HRD.out.named8 n) path s)
        have h2 := (firsts_sub (ns.take k) []).length_le
        rw [List.length_take] at h2
        have h3 := deepN_le (n := n + 1) (by omega)
        rw [deepN] at h3
        rw [HOL.out] at h1
        have h4 : (firsts (ns.take k) []).length * (1 + deepN n) ≤ 8 * (1 + deepN n) := Nat.mul_le_mul_right _ (by omega)
        show ol.length ≤ 5000
        omega
      have HHX := hide hX
      clear hX hsl hol hslen
      obtain ⟨sa, sc, rfl⟩ := stc_form HR.out.s
      go_wp2_with fail
      go_loopw [13, 14] (fun hv jv wr => ∃ q : Nat, q ≤ sl.length ∧ jv = .int .i64 q ∧ hv = .bool (hasN (sl.take q) nm) ∧ Hid (WkR w wr #[.slice a1 xs.length c1, .slice a2 ys.length c2, .slice a3 is.length c3, .slice a4 bs.length c4] (.slice (some ⟨gn, 0, none⟩) ns.length nc) ov (.slice sa sl.length sc) (ns.map (·.1)) ol sl)) (fun _ jv _ => sl.length - (intOf jv).toNat)
      case atStart => exact ⟨0, Nat.zero_le _, rfl, by simp [hasN], HR.out⟩
      case round =>
        obtain ⟨q, hq, rfl, rfl, HS⟩ := hrel
        clear HR
        have q0 : (0 : Int) ≤ (q : Int) := by omega
        have q8 : q ≤ 8 := by have := HSL8.out; omega
        by_cases hqs : q < sl.length
        · have q1 : (q : Int) < (sl.length : Int) := by omega
          have HT := hide (hasN_take (nm := nm) hqs)
          obtain ⟨gs, cs, e1, e2, -⟩ := stc_at HS.out.s q hqs
          simp only [Value.slice.injEq, true_and] at e1
          obtain ⟨rfl, rfl⟩ := e1
          obtain ⟨y2, -⟩ := HNC.out _ _ _ _ _ HS.out
          obtain ⟨t, ht⟩ : ∃ t, sl[q] = t := ⟨_, rfl⟩
          rw [ht] at e2 HT
          have hbd := beq_dec t nm
          clear ht
          cases hb : hasN (sl.take q) nm with
          | true =>
            have HBQ := hide hb
            clear hb hbd
            go_wp2
            go_quiet (fail)
            go_wp2
            go_roundw
            case rel => exact ⟨q + 1, by omega, by go_num, by rw [HT.out, HBQ.out]; rfl, HS.out.below (below_drewN (Below.refl _ _) _)⟩
            case measure => simp [intOf]; omega
          | false =>
            have HBQ := hide hb
            clear hb
            go_wp2
            go_quiet (fail)
            go_wp2
            go_roundw
            case rel => exact ⟨q + 1, by omega, by go_num, by rw [HT.out, HBQ.out]; rfl, HS.out.below (below_drewN (Below.refl _ _) _)⟩
            case measure => simp [intOf]; omega
        · have q1 : ¬ ((q : Int) < (sl.length : Int)) := by omega
          have hqe : sl.take q = sl := List.take_of_length_le (by omega)
          rw [hqe]
          clear hqe hq
          obtain ⟨y2, hgn⟩ := HNC.out _ _ _ _ _ HS.out
          have HT : Hid (ROwns (wr.alloc (.cells #[.string nm] 9)) (w.heap.size + 1) 9 (.slice sa sl.length sc) (stc sl)) := HS.out.s.alloc _
          have HK2 : Hid ((wr.alloc (.cells #[.string nm] 9)).cell? ⟨wr.heap.size, 0, none⟩ = some (.string nm)) := (AtC.new wr 9 #[.string nm]).cell 0
          have HSZ : Hid (w.heap.size + 1 ≤ (wr.alloc (.cells #[.string nm] 9)).heap.size) := by have := HS.out.sz; show _ ≤ _; simp; omega
          have HTL : Hid ((stc sl).length ≤ 100000000000) := by have := HSL8.out; show _ ≤ _; rw [stc_length]; omega
          have HAL : Hid (Below wr.heap.size wr (wr.alloc (.cells #[.string nm] 9))) := (Below.refl _ wr).alloc (Nat.le_refl _) _
          go_upto_region 15 with (at_builtin; refine wpList_step fun K' hK' => ?_; refine step_append_one _ rfl (.tmp 51) (.tmp 56) 85 rfl (w.heap.size + 1) 9 Try.u85 _ 16 Try.i9 rfl (by decide) (.slice sa sl.length sc) _ rfl HT.out HSZ.out wr.heap.size (.string nm) rfl HK2.out rfl HTL.out ?_; intro v12 w12 T12 G12 V12; refine hK' _ _ ?_; have HR12 := hide (And.intro T12 (And.intro G12 V12)); clear T12 G12 V12 hK')
          have HS3 : Hid (WkR w w12 #[.slice a1 xs.length c1, .slice a2 ys.length c2, .slice a3 is.length c3, .slice a4 bs.length c4] (.slice (some ⟨gn, 0, none⟩) ns.length nc) ov v12 (ns.map (·.1)) ol (sl ++ [nm])) := (HS.out.below HAL.out).appS (by rw [stc_append]; exact HR12.out.1) HR12.out.2.1 HR12.out.2.2
          clear HT HK2 HSZ HTL HAL HR12 y2 hgn HS q1
          obtain ⟨HAS, hHAS⟩ : ∃ r, hasN sl nm = r := ⟨_, rfl⟩
          rw [hHAS] at HFI HFT ⊢
          clear hHAS
          have CF := hide (fun W hd => find_any i nm (.slice a1 xs.length c1) (.slice a2 ys.length c2) (.slice a3 is.length c3) (.slice a4 bs.length c4) xs ys is bs W hd HG.out HNMK.out.2)
          rw [HNS.out] at CF
          obtain ⟨TO, hTO⟩ : ∃ r, findI ns nm = r := ⟨_, rfl⟩
          rw [hTO] at CF HFI
          clear hTO
          obtain ⟨y2, hgn⟩ := HNC.out _ _ _ _ _ HS3.out
          have z0 := HS3.out.d.cell 0
          have z1 := HS3.out.d.cell 1
          have z2 := HS3.out.d.cell 2
          have z3 := HS3.out.d.cell 3
          have z0' : w12.cell? ⟨w.heap.size, 0, none⟩ = some (.slice a1 xs.length c1) := z0
          have z1' : w12.cell? ⟨w.heap.size, 1, none⟩ = some (.slice a2 ys.length c2) := z1
          have z2' : w12.cell? ⟨w.heap.size, 2, none⟩ = some (.slice a3 is.length c3) := z2
          have z3' : w12.cell? ⟨w.heap.size, 3, none⟩ = some (.slice a4 bs.length c4) := z3
          clear z0 z1 z2 z3
          go_cut [15, 16, 17] from 27 to 130 (fun bv sv tv wx => (∃ b s : Int, bv = .int .i64 b ∧ sv = .int .i64 s) ∧ tv = .int .i64 TO ∧ WkR w wx #[.slice a1 xs.length c1, .slice a2 ys.length c2, .slice a3 is.length c3, .slice a4 bs.length c4] (.slice (some ⟨gn, 0, none⟩) ns.length nc) ov v12 (ns.map (·.1)) ol (sl ++ [nm]))
          case first =>
            have HDR := hide (fun W (hb : Below w12.drew.heap.size w12.drew W) => (HH.out.below (HS3.out.b.trans ((of_drew hb).mono HS3.out.b.size)) (Nat.le_refl _)))
            have HS4 : Hid (∀ W, Below w12.drew.heap.size w12.drew W → WkR w W #[.slice a1 xs.length c1, .slice a2 ys.length c2, .slice a3 is.length c3, .slice a4 bs.length c4] (.slice (some ⟨gn, 0, none⟩) ns.length nc) ov v12 (ns.map (·.1)) ol (sl ++ [nm])) := fun W hb => HS3.out.below (of_drew hb)
            go_region_with (go_at_call 42; refine (CF.out _ (HDR.out _ (Below.refl _ _))).mono ?_; rintro e w5 ⟨b5, s5, rfl, B5⟩)
            all_goals (try go_wp2_with fail)
            all_goals (go_meet; exact ⟨⟨_, _, rfl, rfl⟩, rfl, (HS4.out _ (Below.refl _ _)).below B5⟩)
          case rest =>
            obtain ⟨⟨b15, s16, rfl, rfl⟩, rfl, hW5⟩ := hcut
            have HS5 := hide hW5
            clear hW5 HS3 z0' z1' z2' z3' y2 hgn CF
            have x2 : wc.cell? ⟨w.heap.size, 2, none⟩ = some (.slice a3 is.length c3) := HS5.out.d.cell 2
            cases HAS with
            | true =>
              go_wp2
              go_roundw
              case rel =>
                refine ⟨_, _, k + 1, rfl, rfl, by omega, by go_num, hide ?_⟩
                have := HS5.out
                rw [← HMT.out, ← HOL.out] at this
                rw [HFT.out, if_pos rfl, List.append_nil]
                exact this
              case measure => simp [intOf]; omega
            | false =>
            have hto : TO = io := HFI.out rfl
            subst hto
            clear HFI
            rw [if_neg (by decide)] at HFT
            have HFL : Hid ((firsts (ns.take (k + 1)) []).flatMap (tellS is bs (walkS is bs n) path) = ol ++ tellS is bs (walkS is bs n) path (nm, TO)) := by
              show (firsts (ns.take (k + 1)) []).flatMap (tellS is bs (walkS is bs n) path) = ol ++ tellS is bs (walkS is bs n) path (nm, TO)
              rw [HFT.out, List.flatMap_append, HOL.out, List.flatMap_cons, List.flatMap_nil, List.append_nil]
            clear HFT HOL HHX
            cases hin : inB TO 1 is.length with
            | false =>
              have HIN := hide hin
              have HT0 : Hid (tellS is bs (walkS is bs n) path (nm, TO) = []) := by
                show tellS is bs (walkS is bs n) path (nm, TO) = []
                unfold tellS
                rw [kindAt_out hin, if_pos rfl]
              clear hin
              go_wp2_with (go_at_call 43; refine (l01In_any TO 1 _ _).mono ?_; rintro e w7 ⟨rfl, rfl⟩; rw [HIN.out])
              go_roundw
              case rel =>
                refine ⟨_, _, k + 1, rfl, rfl, by omega, by go_num, hide ?_⟩
                rw [HMT.out, HFL.out, HT0.out, List.append_nil]
                exact HS5.out
              case measure => simp [intOf]; omega
            | true =>
            have HIN := hide hin
            obtain ⟨h1, h2⟩ := inB_true hin
            obtain ⟨j, rfl⟩ : ∃ j : Nat, TO = (j : Int) + 1 := ⟨(TO - 1).toNat, by omega⟩
            have hj : j < is.length := by omega
            have hj8 : j < 8 := by have := HRD.out.hi; omega
            have hwj : IntKind.i64.wrap (j : Int) = (j : Int) := wrap_small _ (by omega) (by omega)
            have j0 : (0 : Int) ≤ (j : Int) := by omega
            have j1 : (j : Int) < (is.length : Int) := by omega
            obtain ⟨qa, qc, qe, -, qh⟩ := HH.out.i
            simp only [Value.slice.injEq, true_and] at qe
            obtain ⟨rfl, rfl⟩ := qe
            obtain ⟨g2, o2, ⟨t0, t1, t2⟩, rfl, hg2, r0, r1, r2, e0, e1, rr⟩ := qh j hj
            have hkk := (kindAt_in hj).1
            obtain ⟨⟨kd, ln, ps⟩, hX⟩ : ∃ X, is[j] = X := ⟨_, rfl⟩
            rw [hX] at e0 e1 rr hkk
            simp only at e0 e1 rr r0 r1 r2 hkk
            subst e0 e1
            have HKD := hide hkk
            have HK3 := hide (HRD.out.kd _ (List.getElem_mem hj))
            rw [hX] at HK3
            have HI0 : Hid (∀ W, Below w.heap.size w W → W.cell? ⟨g2, o2 + j * 3, none⟩ = some (.int .i64 kd)) := fun W b => (b.cell (p := ⟨g2, o2 + j * 3, none⟩) hg2).trans r0
            have y0 := HI0.out _ HS5.out.b
            clear qh hX rr r0 r1 r2 hin h1 h2 hkk
            by_cases hk0 : kd = 0
            · subst hk0
              have HT0 : Hid (tellS is bs (walkS is bs n) path (nm, (j : Int) + 1) = []) := by
                show tellS is bs (walkS is bs n) path (nm, (j : Int) + 1) = []
                unfold tellS
                rw [HKD.out, if_pos rfl]
              go_wp2_with (go_at_call 43; refine (l01In_any ((j : Int) + 1) 1 _ _).mono ?_; rintro e w7 ⟨rfl, rfl⟩; rw [HIN.out])
              go_roundw
              case rel =>
                refine ⟨_, _, k + 1, rfl, rfl, by omega, by go_num, hide ?_⟩
                rw [HMT.out, HFL.out, HT0.out, List.append_nil]
                exact HS5.out
              case measure => simp [intOf]; omega
            have hk0b : (kd == 0) = false := by simp [hk0]
            have hps : path.size ≤ 28 := by have := HP.out; omega
            have hns6 := HNMK.out.1
            obtain ⟨y2, hgn⟩ := HNC.out _ _ _ _ _ HS5.out
            go_upto_region 17 with (go_at_call 43; refine (l01In_any ((j : Int) + 1) 1 _ _).mono ?_; rintro e w7 ⟨rfl, hw7⟩; subst w7; rw [HIN.out])
            obtain ⟨w6, hw6⟩ : ∃ w6, w6 = wc := ⟨_, rfl⟩
            subst hw6
            have l6 : w.heap.size < w6.heap.size := HS5.out.sz
            have l7 : g2 < w6.heap.size := by omega
            have hgnw : ¬ gn = w6.heap.size := by omega
            have hg2w : ¬ g2 = w6.heap.size := by have := HS5.out.b.size; omega
            have hw6 : ¬ w.heap.size = w6.heap.size := by have := HS5.out.sz; omega
            have HAL6 : Hid (∀ A, Below w6.heap.size w6 (w6.drew.alloc (.cells A 61))) := fun A => (Below.refl _ w6).drew.alloc (Nat.le_refl _) _
            go_cut [18] from 27 to 130 (fun xv wx => xv = .pointer (some ⟨w6.heap.size, 0, none⟩) ∧ AtC wx w6.heap.size 61 #[.string (joinP path nm), .bool (kd == 2), .string ⟨#[]⟩, .string ⟨#[]⟩] ∧ Below w6.heap.size w6 wx)
            case first =>
              go_big_region
              all_goals (try go_wp2_with fail)
              all_goals (go_meet; exact ⟨rfl, (AtC.new w6 61 _).drew, ((Below.refl _ w6).alloc (Nat.le_refl _) _).drew⟩)
            case rest =>
              obtain ⟨rfl, AX, B7⟩ := hcut
              have HS7 := hide (HS5.out.below B7)
              have HAX := hide AX
              have HL5 := hide HS5.out.lts
              have p0 : wc.cell? ⟨w6.heap.size, 0, none⟩ = some (.string (joinP path nm)) := AX.cell 0
              have p1 : wc.cell? ⟨w6.heap.size, 1, none⟩ = some (.bool (kd == 2)) := AX.cell 1
              have p2 : wc.cell? ⟨w6.heap.size, 2, none⟩ = some (.string ⟨#[]⟩) := AX.cell 2
              have p3 : wc.cell? ⟨w6.heap.size, 3, none⟩ = some (.string ⟨#[]⟩) := AX.cell 3
              have lX : w6.heap.size < wc.heap.size := AX.lt
              clear AX B7 HS5 x2 y0 y2 hgn HAL6 hgnw hg2w hw6 l7
              by_cases hk2 : kd = 2
              · subst hk2
                have ht2 : ((2 : Int) == 2) = true := rfl
                rw [ht2] at p1 HAX
                have HTE : Hid (tellS is bs (walkS is bs n) path (nm, (j : Int) + 1) = (joinP path nm, true, ⟨#[]⟩, ⟨#[]⟩) :: walkS is bs n ((j : Int) + 1) (joinP path nm)) := by
                  show tellS is bs (walkS is bs n) path (nm, (j : Int) + 1) = (joinP path nm, true, ⟨#[]⟩, ⟨#[]⟩) :: walkS is bs n ((j : Int) + 1) (joinP path nm)
                  unfold tellS
                  rw [HKD.out, if_neg hk0, if_pos rfl]
                have HAL : Hid (Below wc.heap.size wc (wc.alloc (.cells #[.string (joinP path nm), .bool true, .string ⟨#[]⟩, .string ⟨#[]⟩] 61))) := (Below.refl _ wc).alloc (Nat.le_refl _) _
                have HT : Hid (NdO (wc.alloc (.cells #[.string (joinP path nm), .bool true, .string ⟨#[]⟩, .string ⟨#[]⟩] 61)) (w.heap.size + 1) ov ol) := HS7.out.o.below HAL.out
                have HK2 : Hid (AtC (wc.alloc (.cells #[.string (joinP path nm), .bool true, .string ⟨#[]⟩, .string ⟨#[]⟩] 61)) wc.heap.size 61 (ndRow (joinP path nm, true, ⟨#[]⟩, ⟨#[]⟩)).toArray) := AtC.new wc 61 _
                have HSZ : Hid (w.heap.size + 1 ≤ (wc.alloc (.cells #[.string (joinP path nm), .bool true, .string ⟨#[]⟩, .string ⟨#[]⟩] 61)).heap.size) := by have := HS7.out.sz; show _ ≤ _; simp; omega
                have HTL : Hid (ol.length ≤ 100000000000) := by have := HOLN.out; show _ ≤ _; omega
                go_upto_region 20 with (at_builtin; refine wpList_step fun K' hK' => ?_; refine step_append_node _ rfl (.tmp 106) (.tmp 108) rfl (w.heap.size + 1) ov ol rfl HT.out HSZ.out wc.heap.size (joinP path nm, true, ⟨#[]⟩, ⟨#[]⟩) rfl HK2.out HTL.out ?_; intro v13 w13 T13 G13 V13; refine hK' _ _ ?_; have HR13 := hide (And.intro T13 (And.intro G13 V13)); clear T13 G13 V13 hK')
                have HS8 : Hid (WkR w w13 #[.slice a1 xs.length c1, .slice a2 ys.length c2, .slice (some ⟨g2, o2, none⟩) is.length c3, .slice a4 bs.length c4] (.slice (some ⟨gn, 0, none⟩) ns.length nc) v13 v12 (ns.map (·.1)) (ol ++ [(joinP path nm, true, ⟨#[]⟩, ⟨#[]⟩)]) (sl ++ [nm])) := (HS7.out.below HAL.out).appO HR13.out.1 HR13.out.2.1 HR13.out.2.2
                have A8 : AtC w13 w6.heap.size 61 #[.string (joinP path nm), .bool true, .string ⟨#[]⟩, .string ⟨#[]⟩] := (HAX.out.over HAL.out).grown HR13.out.2.1 (fun e => by have := HL5.out _ (.inr (.inl e)); omega)
                clear p0 p1 p2 p3
                have p0 : w13.cell? ⟨w6.heap.size, 0, none⟩ = some (.string (joinP path nm)) := A8.cell 0
                have z0 : w13.cell? ⟨w.heap.size, 0, none⟩ = some (.slice a1 xs.length c1) := HS8.out.d.cell 0
                have z1 : w13.cell? ⟨w.heap.size, 1, none⟩ = some (.slice a2 ys.length c2) := HS8.out.d.cell 1
                have z2 : w13.cell? ⟨w.heap.size, 2, none⟩ = some (.slice (some ⟨g2, o2, none⟩) is.length c3) := HS8.out.d.cell 2
                have z3 : w13.cell? ⟨w.heap.size, 3, none⟩ = some (.slice a4 bs.length c4) := HS8.out.d.cell 3
                clear A8 HT HK2 HSZ HR13 HAL HS7 HAX
                have IH2 := hide (IH.out (D + 1) (by omega) ((j : Int) + 1) (joinP path nm) w13 (HH.out.below HS8.out.b (Nat.le_refl _)) (by rw [joinP_size]; have := HP.out; omega))
                rw [Int.natCast_add, Int.natCast_one] at IH2
                have HLW := hide (walkS_len HRD.out.named8 n ((j : Int) + 1) (joinP path nm))
                obtain ⟨ML, hML⟩ : ∃ l, walkS is bs n ((j : Int) + 1) (joinP path nm) = l := ⟨_, rfl⟩
                rw [hML] at IH2 HTE HLW
                clear hML
                obtain ⟨JP, hJP⟩ : ∃ l, joinP path nm = l := ⟨_, rfl⟩
                rw [hJP] at IH2 HTE HS8 p0
                clear hJP
                go_wp2_with fail
                refine IH2.out.mono ?_
                rintro e w14 ⟨v14, rfl, N14, B14⟩
                have HS9 := hide (HS8.out.below B14)
                have HN14 := hide N14
                have HSZ2 : Hid (w.heap.size + 1 ≤ w14.heap.size) := HS9.out.sz
                have HTL2 : Hid ((ol ++ [(JP, true, (⟨#[]⟩ : ByteArray), (⟨#[]⟩ : ByteArray))]).length ≤ 100000000000) := by have := HOLN.out; show _ ≤ _; simp; omega
                have HTL3 : Hid (ML.length ≤ 100000000) := by have := deepN_le (n := n) (by omega); have := HLW.out; show _ ≤ _; omega
                clear B14 N14 HS8 IH2 p0 z0 z1 z2 z3
                go_wp2_with (at_builtin; refine wpList_step fun K' hK' => ?_; refine step_append_nodes _ rfl (.tmp 110) (.tmp 117) rfl (w.heap.size + 1) v13 _ rfl HS9.out.o HSZ2.out w13.heap.size v14 _ rfl HN14.out HTL2.out HTL3.out ?_; intro v15 w15 T15 G15 V15; refine hK' _ _ ?_; have HR15 := hide (And.intro T15 (And.intro G15 V15)); clear T15 G15 V15 hK')
                go_roundw
                case rel =>
                  refine ⟨_, _, k + 1, rfl, rfl, by omega, by go_num, hide ?_⟩
                  rw [HMT.out, HFL.out, HTE.out]
                  have := HS9.out.appO HR15.out.1 HR15.out.2.1 HR15.out.2.2
                  rw [List.append_assoc] at this
                  exact this
                case measure => simp [intOf]; omega
              · have hk1 : kd = 1 := HK3.out.elim (fun e => absurd e hk0) (fun e => e.elim (fun e => e) (fun e => absurd e hk2))
                subst hk1
                have ht2 : ((1 : Int) == 2) = false := rfl
                rw [ht2] at p1 HAX
                have CT := hide (fun W hd => text_any ((j : Int) + 1) (.slice a1 xs.length c1) (.slice a2 ys.length c2) (.slice (some ⟨g2, o2, none⟩) is.length c3) (.slice a4 bs.length c4) xs ys is bs W hd (by rw [HRD.out.hi]; decide) (by rw [HRD.out.hb]; decide) HRD.out.two)
                have HTE : Hid (tellS is bs (walkS is bs n) path (nm, (j : Int) + 1) = [(joinP path nm, false, (textsAt is bs ((j : Int) + 1)).1, (textsAt is bs ((j : Int) + 1)).2)]) := by
                  show tellS is bs (walkS is bs n) path (nm, (j : Int) + 1) = _
                  unfold tellS
                  rw [HKD.out, if_neg hk0, if_neg hk2]
                obtain ⟨⟨tx1, tx2⟩, hTX⟩ : ∃ X, textsAt is bs ((j : Int) + 1) = X := ⟨_, rfl⟩
                rw [hTX] at CT HTE
                clear hTX
                have z0 : wc.cell? ⟨w.heap.size, 0, none⟩ = some (.slice a1 xs.length c1) := HS7.out.d.cell 0
                have z1 : wc.cell? ⟨w.heap.size, 1, none⟩ = some (.slice a2 ys.length c2) := HS7.out.d.cell 1
                have z2 : wc.cell? ⟨w.heap.size, 2, none⟩ = some (.slice (some ⟨g2, o2, none⟩) is.length c3) := HS7.out.d.cell 2
                have z3 : wc.cell? ⟨w.heap.size, 3, none⟩ = some (.slice a4 bs.length c4) := HS7.out.d.cell 3
                go_wp2_with fail
                refine (CT.out _ (HH.out.below HS7.out.b (Nat.le_refl _))).mono ?_
                rintro e w16 ⟨rfl, B16⟩
                clear p0 p1 p2 p3 z0 z1 z2 z3
                have HS8 := hide (HS7.out.below B16)
                have A8 := HAX.out.over B16
                have p0 : w16.cell? ⟨w6.heap.size, 0, none⟩ = some (.string (joinP path nm)) := A8.cell 0
                have p1 : w16.cell? ⟨w6.heap.size, 1, none⟩ = some (.bool false) := A8.cell 1
                have p2 : w16.cell? ⟨w6.heap.size, 2, none⟩ = some (.string ⟨#[]⟩) := A8.cell 2
                have p3 : w16.cell? ⟨w6.heap.size, 3, none⟩ = some (.string ⟨#[]⟩) := A8.cell 3
                have f2 := A8.frozen 2
                have f3 := A8.frozen 3
                have lX2 : w6.heap.size < w16.heap.size := A8.lt
                have HA8 := hide A8
                clear B16 A8 HS7 HAX CT
                obtain ⟨JP, hJP⟩ : ∃ l, joinP path nm = l := ⟨_, rfl⟩
                rw [hJP] at HTE HA8 p0
                clear hJP
                obtain ⟨W17, hW17⟩ : ∃ W17, (w16.setCell ⟨w6.heap.size, 2, none⟩ (.string tx1)).setCell ⟨w6.heap.size, 3, none⟩ (.string tx2) = W17 := ⟨_, rfl⟩
                have A9 : AtC W17 w6.heap.size 61 #[.string JP, .bool false, .string tx1, .string tx2] := by
                  rw [← hW17]
                  exact (HA8.out.set 2 (.string tx1)).set 3 (.string tx2)
                have HS9 : Hid (WkR w W17 #[.slice a1 xs.length c1, .slice a2 ys.length c2, .slice (some ⟨g2, o2, none⟩) is.length c3, .slice a4 bs.length c4] (.slice (some ⟨gn, 0, none⟩) ns.length nc) ov v12 (ns.map (·.1)) ol (sl ++ [nm])) := by
                  show WkR w W17 #[.slice a1 xs.length c1, .slice a2 ys.length c2, .slice (some ⟨g2, o2, none⟩) is.length c3, .slice a4 bs.length c4] (.slice (some ⟨gn, 0, none⟩) ns.length nc) ov v12 (ns.map (·.1)) ol (sl ++ [nm])
                  rw [← hW17]
                  exact (HS8.out.set (by omega) (fun k hk => by have := HL5.out k hk; omega) 2 (.string tx1)).set (by omega) (fun k hk => by have := HL5.out k hk; omega) 3 (.string tx2)
                have r0 : W17.cell? ⟨w6.heap.size, 0, none⟩ = some (.string JP) := A9.cell 0
                have r1 : W17.cell? ⟨w6.heap.size, 1, none⟩ = some (.bool false) := A9.cell 1
                have r2 : W17.cell? ⟨w6.heap.size, 2, none⟩ = some (.string tx1) := A9.cell 2
                have r3 : W17.cell? ⟨w6.heap.size, 3, none⟩ = some (.string tx2) := A9.cell 3
                have HAL : Hid (Below W17.heap.size W17 (W17.alloc (.cells #[.string JP, .bool false, .string tx1, .string tx2] 61))) := (Below.refl _ W17).alloc (Nat.le_refl _) _
                have HT : Hid (NdO (W17.alloc (.cells #[.string JP, .bool false, .string tx1, .string tx2] 61)) (w.heap.size + 1) ov ol) := HS9.out.o.below HAL.out
                have HK2 : Hid (AtC (W17.alloc (.cells #[.string JP, .bool false, .string tx1, .string tx2] 61)) W17.heap.size 61 (ndRow (JP, false, tx1, tx2)).toArray) := AtC.new W17 61 _
                have HSZ : Hid (w.heap.size + 1 ≤ (W17.alloc (.cells #[.string JP, .bool false, .string tx1, .string tx2] 61)).heap.size) := by have := HS9.out.sz; show _ ≤ _; simp; omega
                have HTL : Hid (ol.length ≤ 100000000000) := by have := HOLN.out; show _ ≤ _; omega
                clear A9 HS8 HA8
                go_wp2_with (at_builtin; refine wpList_step fun K' hK' => ?_; refine step_append_node _ rfl (.tmp 127) (.tmp 129) rfl (w.heap.size + 1) ov ol rfl HT.out HSZ.out W17.heap.size (JP, false, tx1, tx2) rfl HK2.out HTL.out ?_; intro v13 w13 T13 G13 V13; refine hK' _ _ ?_; have HR13 := hide (And.intro T13 (And.intro G13 V13)); clear T13 G13 V13 hK')
                go_roundw
                case rel =>
                  refine ⟨_, _, k + 1, rfl, rfl, by omega, by go_num, hide ?_⟩
                  rw [HMT.out, HFL.out, HTE.out]
                  exact (HS9.out.below HAL.out).appO HR13.out.1 HR13.out.2.1 HR13.out.2.2
                case measure => simp [intOf]; omega
end Go.Proofs.Ytljooldjcefkoaa
/- Of the specification: TreeOf by its contract. -/
namespace Go.Proofs.Ytljooldjcefkoaa
open Go.RowKit Kit
/-- In the order of paths. -/
def Srt (l : List Nd) : Prop := l.Pairwise (fun x y => bl y.1.toList x.1.toList = false)
theorem walkS_none {is : List Ino} {bs : List Blk} {n : Nat} {i : Int} {p : ByteArray} (h : ¬ kindAt is i = 2) : walkS is bs n i p = [] := by
  cases n with
  | zero => rfl
  | succ n => rw [walkS]; unfold named; rw [if_neg h]; rfl
set_option maxRecDepth 100000 in
set_option maxHeartbeats 1600000 in
theorem specTree_any (dx dy iv bv : Value) (xs ys : List Bool) (is : List Ino) (bs : List Blk) (w : World) (h : DR w dx dy iv bv xs ys is bs) (hG : Big 1048576 xs ys is bs) :
    Calls Try.prog 5 #[.agg #[dx, dy, iv, bv]] w fun e w' => ∃ v l, e = .returned v ∧ NdO w' w.heap.size v l ∧ Below w.heap.size w w' ∧ (diskOk xs ys is bs = false → l = []) ∧ (diskOk xs ys is bs = true → l.Perm (walkS is bs 4 1 ⟨#[]⟩) ∧ Srt l) := by
  obtain ⟨a1, c1, a2, c2, a3, c3, a4, c4, rfl, rfl, rfl, rfl⟩ := h.form
  have HH := hide h
  have HG := hide hG
  have CO := hide (fun W hd => specOk_disk (.slice a1 xs.length c1) (.slice a2 ys.length c2) (.slice a3 is.length c3) (.slice a4 bs.length c4) xs ys is bs W hd (fun j hj k hk => (hG.s j hj).2.1 k hk))
  clear h hG
  have x0 := (AtC.new w 36 #[.slice a1 xs.length c1, .slice a2 ys.length c2, .slice a3 is.length c3, .slice a4 bs.length c4])
  have HB0 : Hid (Below w.heap.size w (w.alloc (.cells #[.slice a1 xs.length c1, .slice a2 ys.length c2, .slice a3 is.length c3, .slice a4 bs.length c4] 36))) := (Below.refl _ w).alloc (Nat.le_refl _) _
  have HX0 := hide x0
  clear x0
  cases hok : diskOk xs ys is bs with
  | false =>
    rw [hok] at CO
    have HOK := hide hok
    clear hok
    go_enter Try.func5, Try.ntmps5
    go_wp2_with fail
    refine (CO.out _ (HH.out.alloc _)).mono ?_
    rintro e w1 ⟨rfl, B1⟩
    have HB1 := hide (HB0.out.trans (B1.mono HB0.out.size))
    clear B1
    have HL : Hid (NdO (w1.alloc (.cells #[] 61)) w.heap.size (.slice (some ⟨w1.heap.size, 0, none⟩) 0 0) []) := (NdO.lit0 w1).mono HB1.out.size
    go_wp2
    go_ret
    exact ⟨_, [], rfl, HL.out, HB1.out.alloc HB1.out.size _, (fun _ => rfl), (fun e => by cases e)⟩
  | true =>
    rw [hok] at CO
    have HR := hide (RD.of_ok hok)
    clear hok
    have hi0 : 0 < is.length := by rw [HR.out.hi]; decide
    obtain ⟨qa, qc, qe, -, qh⟩ := HH.out.i
    simp only [Value.slice.injEq, true_and] at qe
    obtain ⟨rfl, rfl⟩ := qe
    obtain ⟨g2, o2, ⟨t0, t1, t2⟩, rfl, hg2, r0, r1, r2, e0, e1, rr⟩ := qh 0 hi0
    have hkk := (kindAt_in hi0).1
    obtain ⟨⟨kd, ln, ps⟩, hX⟩ : ∃ X, is[0] = X := ⟨_, rfl⟩
    rw [hX] at e0 e1 rr hkk
    simp only [Nat.zero_mul, Nat.add_zero] at e0 e1 rr r0 r1 r2 hkk
    subst e0
    have HKD : Hid (kindAt is 1 = kd) := hkk
    have HI0 : Hid (∀ W, Below w.heap.size w W → W.cell? ⟨g2, o2, none⟩ = some (.int .i64 kd)) := fun W b => (b.cell (p := ⟨g2, o2, none⟩) hg2).trans r0
    clear qh hX rr r0 r1 r2 hkk e1
    go_enter Try.func5, Try.ntmps5
    go_wp2_with fail
    refine (CO.out _ (HH.out.alloc _)).mono ?_
    rintro e w1 ⟨rfl, B1⟩
    have HB1 := hide (HB0.out.trans (B1.mono HB0.out.size))
    have A1 := HX0.out.over B1
    have y0 := HI0.out _ HB1.out
    have z0 : w1.cell? ⟨w.heap.size, 0, none⟩ = some (.slice a1 xs.length c1) := A1.cell 0
    have z1 : w1.cell? ⟨w.heap.size, 1, none⟩ = some (.slice a2 ys.length c2) := A1.cell 1
    have z2 : w1.cell? ⟨w.heap.size, 2, none⟩ = some (.slice (some ⟨g2, o2, none⟩) is.length c3) := A1.cell 2
    have z3 : w1.cell? ⟨w.heap.size, 3, none⟩ = some (.slice a4 bs.length c4) := A1.cell 3
    have j1 : (0 : Int) < (is.length : Int) := by omega
    clear B1 A1 HX0
    by_cases hk2 : kd = 2
    · have HW := hide (walkS_any (.slice a1 xs.length c1) (.slice a2 ys.length c2) (.slice (some ⟨g2, o2, none⟩) is.length c3) (.slice a4 bs.length c4) xs ys is bs HR.out HG.out 4 0 rfl 1 ⟨#[]⟩ w1 (HH.out.below HB1.out (Nat.le_refl _)) (Nat.zero_le _))
      subst hk2
      have HLEN := hide (walkS_len HR.out.named8 4 1 ⟨#[]⟩)
      obtain ⟨WL, hWL⟩ : ∃ l, walkS is bs 4 1 ⟨#[]⟩ = l := ⟨_, rfl⟩
      rw [hWL] at HW HLEN
      have HWL := hide hWL
      clear hWL
      go_wp2_with fail
      refine HW.out.mono ?_
      rintro e w2 ⟨v2, rfl, N2, B2⟩
      have HB2 := hide (HB1.out.trans (B2.mono HB1.out.size))
      have HN2 := hide N2
      clear B2 N2 HW z0 z1 z2 z3 y0
      go_wp2_with fail
      refine (sorted_any w1.heap.size v2 WL w2 HN2.out (Nat.le_trans HLEN.out (by decide))).mono ?_
      rintro e w3 ⟨v3, l3, rfl, N3, P3, S3, B3⟩
      have HB3 := hide (HB2.out.trans (B3.mono HB2.out.size))
      have HN3 := hide (And.intro (N3.mono HB2.out.size) (And.intro P3 S3))
      clear B3 N3 P3 S3
      go_wp2
      go_ret
      exact ⟨_, l3, rfl, HN3.out.1, HB3.out, (fun e => by cases e), fun _ => ⟨by rw [HWL.out]; exact HN3.out.2.1, HN3.out.2.2⟩⟩
    · have hkb : (kd != 2) = true := by simp [hk2]
      have HWN : Hid (walkS is bs 4 1 ⟨#[]⟩ = []) := walkS_none (by rw [HKD.out]; exact hk2)
      have HL : Hid (NdO (w1.alloc (.cells #[] 61)) w.heap.size (.slice (some ⟨w1.heap.size, 0, none⟩) 0 0) []) := (NdO.lit0 w1).mono HB1.out.size
      go_wp2
      go_ret
      exact ⟨_, [], rfl, HL.out, HB1.out.alloc HB1.out.size _, (fun _ => rfl), fun _ => ⟨by rw [HWN.out], List.Pairwise.nil⟩⟩
end Go.Proofs.Ytljooldjcefkoaa
