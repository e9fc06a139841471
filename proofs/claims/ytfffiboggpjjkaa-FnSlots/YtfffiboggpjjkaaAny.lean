/- spec.l04Copy, spec.l01PickInt and spec.l04Any by their contracts. -/
import Derived.Test.YtfffiboggpjjkaaDrB
import Derived.Test.YtfffiboggpjjkaaTo
namespace Go.Proofs.Ytfffiboggpjjkaa.Kit
open Go.RowKit
theorem wpList_append_slots {P : Program} {w : World} {ops : Array Oper} {rest : List Oper} {o : Oper} {a : Act} {Q : Exit → Act → World → Prop} (w0 : World) (hgd : o.guard = none) (s x : Operand) (t : TypeId)
    (ho : o.op = .call { callee := .builtin .append, args := #[s, x], argTypes := #[t, t] }) (base : Nat) (e : TypeId) (ht : P.underlying t = some (.slice e)) (z : Value) (bytes : Nat)
    (hi : (P.info? e).map (fun i => (i.zero, i.size, i.bytes)) = some (some z, 2, bytes)) (hzc : z.cells.size = 2) (hby : bytes ≤ 64) (v : Value) (ys : List Sl) (hs : a.eval s = v) (hown : SOwns w base e v ys)
    (hb : Below base w0 w) (hbase : base ≤ w.heap.size) (ad : Addr) (m c : Nat) (hx : a.eval x = .slice (some ad) m c) (xs : List Sl) (hm : xs.length = m) (h0 : 0 < m) (hl : ys.length + m ≤ 1000000000)
    (hc : ∀ (j : Nat) (u : Value), (sc xs)[j]? = some u → w.cell? (ad.add j) = some u)
    (h : ∀ v' w', SOwns w' base e v' (ys ++ xs) → Below base w0 w' → wpList P ops Q rest (a.put o.dst v') w') : wpList P ops Q (o :: rest) a w := by
  obtain ⟨i0, hi, hz0, hz1, hz2⟩ := info_parts hi
  have hown2 : w.ownsRow base e 2 v ys.length (sc ys) := hown
  refine wpList_append_lies _ hgd s x t ho base e i0 z 2 bytes ht hi hz0 hz1 hz2 hzc (by decide) v ys.length (sc ys) hs hown2 ad m c (sc xs) hx (by rw [sc_length, hm]) hc ?_ h0 ?_ ?_ hbase w.heap.size rfl ?_
  · intro u hu
    have : ∀ l : List Sl, ∀ u ∈ sc l, u.oneCell' = true := fun l => by
      induction l with
      | nil => intro u hu; simp [sc] at hu
      | cons y r ih =>
        intro u hu
        simp only [sc, List.mem_cons] at hu
        rcases hu with rfl | rfl | hu
        · rfl
        · rfl
        · exact ih u hu
    exact this xs u hu
  · unfold maxLen; omega
  · have : (ys.length + m) * bytes ≤ 1000000000 * 64 := Nat.mul_le_mul hl hby
    omega
  · intro g' cap w' hown' hgrow _ _
    refine h _ w' ?_ (hb.grown hgrow hbase fun k hk => (hown2.lt k hk).1)
    unfold SOwns
    rw [List.length_append, sc_append, hm]
    exact hown'
end Go.Proofs.Ytfffiboggpjjkaa.Kit
namespace Go.Proofs.Ytfffiboggpjjkaa
open Go.RowKit Kit
set_option maxHeartbeats 1600000 in
theorem copy_text (t : ByteArray) (w : World) :
    Calls Try.prog 52 #[.agg #[.bool false, .slice none 0 0, .string t]] w fun e w' => ∃ v, e = .returned (.agg #[.bool false, v, .string t]) ∧ SOwns w' w.heap.size 36 v [] ∧ Below w.heap.size w w' := by
  go_enter Try.func52, Try.ntmps52
  go_wp2
  refine bodyPost_ret (v := .agg #[.bool false, .slice (some ⟨w.heap.size + 1 + 1, 0, none⟩) 0 0, .string t]) (by simp [results, go_sem]) rfl ⟨_, rfl, ?_, by go_grown⟩
  have := World.ownsRow_lit (base := w.heap.size) (e := 36) (size := 2) ((w.alloc (Obj.cells #[.bool false, .slice (some ⟨w.heap.size + 1 + 1, 0, none⟩) 0 0, .string t] 26)).alloc (Obj.cells #[.bool false, .slice (some ⟨w.heap.size + 1 + 1, 0, none⟩) 0 0, .string t] 26)) #[] 0 (by simp; omega) (Nat.zero_le _) rfl
  unfold SOwns
  simpa [sc] using this
set_option maxHeartbeats 1600000 in
theorem copy_dir (v : Value) (t : ByteArray) (xs : List Sl) (base : Nat) (w : World) (hv : SOwns w base 36 v xs) (hl : xs.length = 4) :
    Calls Try.prog 52 #[.agg #[.bool true, v, .string t]] w fun e w' => ∃ v, e = .returned (.agg #[.bool true, v, .string t]) ∧ SOwns w' w.heap.size 36 v xs ∧ Below w.heap.size w w' := by
  obtain ⟨i0, hi, hz0, hz1, hz2⟩ := info_parts Try.i36
  have HV := hide hv
  obtain ⟨g, cc, e1, -, -, -, -, hgl, -⟩ := hv.at 0 (by omega)
  subst e1
  have hcells : ∀ (j : Nat) (u : Value), (sc xs)[j]? = some u → w.cell? ((⟨g, 0, none⟩ : Addr).add j) = some u := World.ownsRow.cells hv rfl
  have HCE := hide hcells
  clear hv hcells
  rw [hl] at HV ⊢
  have HL := hide hl
  clear hl
  go_enter Try.func52, Try.ntmps52
  have hwb : Below (w.heap.size + 1 + 1) ((w.alloc (.cells #[.bool true, .slice (some ⟨g, 0, none⟩) 4 cc, .string t] 26)).alloc (.cells #[.bool false, .slice none 0 0, .string ⟨#[]⟩] 26)) (((w.alloc (.cells #[.bool true, .slice (some ⟨g, 0, none⟩) 4 cc, .string t] 26)).alloc (.cells #[.bool false, .slice none 0 0, .string ⟨#[]⟩] 26)).alloc (.cells #[] 36)) := (Below.refl _ _).alloc (by simp) _
  have HWB := hide hwb
  clear hwb
  go_wp2_with (at_builtin; refine wpList_append_slots ((w.alloc (.cells #[.bool true, .slice (some ⟨g, 0, none⟩) 4 cc, .string t] 26)).alloc (.cells #[.bool false, .slice none 0 0, .string ⟨#[]⟩] 26)) rfl _ _ 24 rfl (w.heap.size + 1 + 1) 36 Try.u24 _ 24 Try.i36 rfl (by decide) (.slice (some ⟨w.heap.size + 1 + 1, 0, none⟩) 0 0) [] rfl ?c1 HWB.out ?c2 ⟨g, 0, none⟩ 4 cc rfl xs HL.out (by decide) (by decide) ?c3 ?_)
  case c1 =>
    have := World.ownsRow_lit (base := w.heap.size + 1 + 1) (e := 36) (size := 2) ((w.alloc (.cells #[.bool true, .slice (some ⟨g, 0, none⟩) 4 cc, .string t] 26)).alloc (.cells #[.bool false, .slice none 0 0, .string ⟨#[]⟩] 26)) #[] 0 (by simp) (Nat.zero_le _) rfl
    unfold SOwns
    simpa [sc] using this
  case c2 => simp
  case c3 =>
    intro j u hj
    have hb3 : Below w.heap.size w (((w.alloc (.cells #[.bool true, .slice (some ⟨g, 0, none⟩) 4 cc, .string t] 26)).alloc (.cells #[.bool false, .slice none 0 0, .string ⟨#[]⟩] 26)).alloc (.cells #[] 36)) := (((Below.refl _ w).alloc (Nat.le_refl _) _).alloc (by simp) _).alloc (by simp; omega) _
    exact (hb3.cell (p := (⟨g, 0, none⟩ : Addr).add j) (by cases j <;> simpa [Addr.add] using hgl)).trans (HCE.out j u hj)
  intro v' w1 O1 B1
  obtain ⟨a6, c6, rfl, -⟩ := O1.form
  rw [HL.out]
  have X0 : AtC w1 w.heap.size 26 #[.bool true, .slice (some ⟨g, 0, none⟩) 4 cc, .string t] := ((AtC.new w 26 _).alloc _).below B1 (by omega)
  have X1 : AtC w1 (w.heap.size + 1) 26 #[.bool false, .slice none 0 0, .string ⟨#[]⟩] := by
    have := (AtC.new (w.alloc (.cells #[.bool true, .slice (some ⟨g, 0, none⟩) 4 cc, .string t] 26)) 26 #[.bool false, .slice none 0 0, .string ⟨#[]⟩]).below B1 (by simp)
    simpa using this
  have hB : Below w.heap.size w w1 := (((Below.refl _ w).alloc (Nat.le_refl _) _).alloc (by simp) _).trans (B1.mono (by omega))
  have O2 : SOwns w1 (w.heap.size + 1 + 1) 36 (.slice a6 4 c6) xs := by rwa [HL.out] at O1
  obtain ⟨q0, q1, q2, ql⟩ := X0.three
  obtain ⟨f0, f1, f2⟩ := X0.frz
  obtain ⟨r0, r1, r2, rl⟩ := X1.three
  obtain ⟨g0, g1, g2⟩ := X1.frz
  have HB := hide hB
  have HO := hide O2
  clear O1 B1 X0 X1 hB O2
  go_wp2
  refine bodyPost_ret (v := .agg #[.bool true, .slice a6 4 c6, .string t]) (by simp [results, go_sem, r0, r1, r2]) rfl ⟨_, rfl, ?_, ?_⟩
  · exact ((((HO.out.setCell_low (by omega) _).setCell_low (by omega) _).setCell_low (by omega) _).setCell_low (by omega) _).base_le (by omega)
  · exact (((HB.out.setCell (by simp) _).setCell (by simp) _).setCell (by simp) _).setCell (by simp) _
theorem pickI_any (w0 w : World) (c g : Nat) (a : Option Addr) (len cap : Nat) (xs : List Int) (hcode : CodeIs w0 a len) (hlen : len ≤ 1048576) (hcur : Cur 78 w0 w c a len cap) (hg : AtC w g 3 (xs.map (Value.int .i64)).toArray) (hne : c ≠ g) (hx0 : 0 < xs.length) (hx1 : xs.length ≤ 256) :
    Calls Try.prog 55 #[.pointer (some ⟨c, 0, none⟩), .slice (some ⟨g, 0, none⟩) xs.length xs.length] w fun e w' => ∃ z : Int, e = .returned (.int .i64 z) ∧ Drew w0 w w' c a len cap := by
  have HC := hide hcur
  have HO := hide hcode
  have HG := hide hg
  clear hcur hcode hg
  go_enter Try.func55, Try.ntmps55
  go_wp2_with fail
  refine (below_any w0 w c a len cap xs.length HO.out hlen HC.out hx0 (by omega)).mono ?_
  rintro e w1 ⟨x, hx, rfl, hd⟩
  have HD := hide hd
  obtain ⟨z, hz⟩ : ∃ z, xs[x] = z := ⟨_, rfl⟩
  have hcell : w1.cell? ⟨g, x, none⟩ = some (.int .i64 z) := by
    rw [(HG.out.grown hd.2 (by simpa using hne)).cell x]
    simp [hx, hz]
  clear hd hz
  go_wp2
  go_ret
  exact ⟨z, rfl, HD.out⟩
/-- A drawn block's bounds. -/
def Mild (t : ByteArray) (xs : List Sl) : Prop := t.size ≤ 17 ∧ (xs.length = 0 ∨ xs.length = 4) ∧ ∀ (i : Nat) (h : i < xs.length), xs[i].1.size ≤ 7
/-- While a block is spoilt: the result, the variable V, its slots, the cursor. -/
structure Sa (w0 w w' : World) (c : Nat) (a : Option Addr) (len cap : Nat) (V : Nat) (d : Bool) (v : Value) (t : ByteArray) (xs : List Sl) : Prop where
  res : AtC w' w.heap.size 26 #[.bool false, .slice none 0 0, .string ⟨#[]⟩]
  var : AtC w' V 26 #[.bool d, v, .string t]
  own : SOwns w' (w.heap.size + 1) 36 v xs
  dr : Drew w0 w w' c a len cap
  hv : w.heap.size < V
  vo : v.ownBlock ≠ some V
  hc : c < w.heap.size
  mild : Mild t xs
namespace Sa
variable {w0 w w' : World} {c len cap V : Nat} {a : Option Addr} {d : Bool} {v : Value} {t : ByteArray} {xs : List Sl}
theorem drews (h : Sa w0 w w' c a len cap V d v t xs) {w2 : World} (hd : Drew w0 w' w2 c a len cap) : Sa w0 w w2 c a len cap V d v t xs := by
  have h1 := h.hc
  have h2 := h.hv
  exact ⟨h.res.grown hd.2 (by simp; omega), h.var.grown hd.2 (by simp; omega), h.own.grown hd.2 (fun j hj e => by have := (h.own.lt _ hj).1; simp at e; omega), h.dr.trans hd, h.hv, h.vo, h.hc, h.mild⟩
theorem over (h : Sa w0 w w' c a len cap V d v t xs) {w2 : World} (hb : Below w'.heap.size w' w2) : Sa w0 w w2 c a len cap V d v t xs :=
  ⟨h.res.over hb, h.var.over hb, h.own.below hb (Nat.le_refl _), h.dr.below h.hc hb, h.hv, h.vo, h.hc, h.mild⟩
theorem alloc (h : Sa w0 w w' c a len cap V d v t xs) (o : Obj) : Sa w0 w (w'.alloc o) c a len cap V d v t xs := h.over ((Below.refl _ w').alloc (Nat.le_refl _) o)
theorem drew (h : Sa w0 w w' c a len cap V d v t xs) : Sa w0 w w'.drew c a len cap V d v t xs := h.over (Below.refl _ w').drew
theorem setDir (h : Sa w0 w w' c a len cap V d v t xs) (d' : Bool) : Sa w0 w (w'.setCell ⟨V, 0, none⟩ (.bool d')) c a len cap V d' v t xs :=
  ⟨h.res.other (by have := h.hv; omega) _, h.var.set 0 _, h.own.setCell_other h.vo _, h.dr.setCell h.hc (by have := h.hv; omega) _, h.hv, h.vo, h.hc, h.mild⟩
theorem setText (h : Sa w0 w w' c a len cap V d v t xs) (t' : ByteArray) (ht : t'.size ≤ 17) : Sa w0 w (w'.setCell ⟨V, 2, none⟩ (.string t')) c a len cap V d v t' xs :=
  ⟨h.res.other (by have := h.hv; omega) _, h.var.set 2 _, h.own.setCell_other h.vo _, h.dr.setCell h.hc (by have := h.hv; omega) _, h.hv, h.vo, h.hc, ⟨ht, h.mild.2⟩⟩
theorem setIno {g c4 : Nat} (h : Sa w0 w w' c a len cap V d (.slice (some ⟨g, 0, none⟩) xs.length c4) t xs) {j : Nat} (hj : j < xs.length) (z : Int) : Sa w0 w (w'.setCell ⟨g, j * 2 + 1, none⟩ (.int .i64 z)) c a len cap V d (.slice (some ⟨g, 0, none⟩) xs.length c4) t (xs.set j (xs[j].1, z)) := by
  have hg := (h.own.lt g rfl).1
  have hv : V ≠ g := fun e => h.vo (by rw [e]; rfl)
  refine ⟨h.res.other (by omega) _, h.var.other hv _, (h.own.set_ino j hj z).1, h.dr.setCell h.hc (by omega) _, h.hv, h.vo, h.hc, h.mild.1, by rw [List.length_set]; exact h.mild.2.1, fun i hi => ?_⟩
  rw [List.length_set] at hi
  by_cases hij : j = i
  · subst hij; rw [List.getElem_set_self]; exact h.mild.2.2 j hi
  · rw [List.getElem_set_ne hij]; exact h.mild.2.2 i hi
theorem setName {g c4 : Nat} (h : Sa w0 w w' c a len cap V d (.slice (some ⟨g, 0, none⟩) xs.length c4) t xs) {j : Nat} (hj : j < xs.length) (n : ByteArray) (hn : n.size ≤ 7) : Sa w0 w (w'.setCell ⟨g, j * 2, none⟩ (.string n)) c a len cap V d (.slice (some ⟨g, 0, none⟩) xs.length c4) t (xs.set j (n, xs[j].2)) := by
  have hg := (h.own.lt g rfl).1
  have hv : V ≠ g := fun e => h.vo (by rw [e]; rfl)
  refine ⟨h.res.other (by omega) _, h.var.other hv _, (h.own.set_name j hj n).1, h.dr.setCell h.hc (by omega) _, h.hv, h.vo, h.hc, h.mild.1, by rw [List.length_set]; exact h.mild.2.1, fun i hi => ?_⟩
  rw [List.length_set] at hi
  by_cases hij : j = i
  · subst hij; rw [List.getElem_set_self]; exact hn
  · rw [List.getElem_set_ne hij]; exact h.mild.2.2 i hi
theorem fin (h : Sa w0 w w' c a len cap V d v t xs) (x y z : Value) : SOwns (((w'.setCell ⟨w.heap.size, 0, none⟩ x).setCell ⟨w.heap.size, 1, none⟩ y).setCell ⟨w.heap.size, 2, none⟩ z) w.heap.size 36 v xs ∧ Mild t xs ∧
    Drew w0 w (((w'.setCell ⟨w.heap.size, 0, none⟩ x).setCell ⟨w.heap.size, 1, none⟩ y).setCell ⟨w.heap.size, 2, none⟩ z) c a len cap :=
  ⟨(((h.own.setCell_low (by omega) _).setCell_low (by omega) _).setCell_low (by omega) _).base_le (by omega), h.mild, ((h.dr.setCell h.hc (Nat.le_refl _) _).setCell h.hc (Nat.le_refl _) _).setCell h.hc (Nat.le_refl _) _⟩
end Sa
end Go.Proofs.Ytfffiboggpjjkaa
