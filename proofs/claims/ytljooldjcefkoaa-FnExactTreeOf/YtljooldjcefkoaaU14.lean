/- Texts of the proof, bundled: Gr0, Gr, Bf, Te. -/
import Derived.Deep.LoopGhost
import Derived.Laws.EntriesVeiled
import Derived.Test.YtljooldjcefkoaaU13
/- The closure of impl.branchesFrom by its contract: what is below a branch, so deep. -/
namespace Go.Proofs.Ytljooldjcefkoaa
open Go.RowKit Kit
/-- The names of a directory in order, the first of each. -/
def kids (is : List Ino) (bs : List Blk) (i : Int) : List Sl := (named is bs i).foldl ins []
/-- Branches lie in the world, with these pointers below them. -/
def Row4 (w : World) (l : List Br) (f : Nat → Value) : Prop := ∀ (j : Nat) (hj : j < l.length), AtC w l[j].1 58 #[.string l[j].2.1, .int .i64 l[j].2.2, ptrB (l.drop (j + 1)), f j]
theorem Row4.of_chn {w : World} : ∀ {l : List Br}, Chn w l → Row4 w l (fun _ => .pointer none)
  | [], _, j, hj => by simp at hj
  | b :: r, h, 0, _ => h.1
  | b :: r, h, j + 1, hj => Row4.of_chn h.2 j (by simpa using hj)
theorem Row4.heap {w w' : World} {l : List Br} {f : Nat → Value} (h : Row4 w l f) (hh : ∀ b ∈ l, w'.heap[b.1]? = w.heap[b.1]?) : Row4 w' l f := fun j hj => (hh _ (List.getElem_mem hj)).trans (h j hj)
/-- What is below a branch that leads to an inode, n deep, in blocks from L on. -/
def Grn (is : List Ino) (bs : List Blk) : Nat → World → Nat → Int → Value → Prop
  | 0, _, _, _, p => p = .pointer none
  | n + 1, w, L, io, p => ∃ (l : List Br) (f : Nat → Value), p = ptrB l ∧ l.map (·.2) = kids is bs io ∧ (∀ b ∈ l, L ≤ b.1) ∧ Row4 w l f ∧ ∀ (j : Nat) (hj : j < l.length), Grn is bs n w L l[j].2.2 (f j)
theorem Grn.heap {is : List Ino} {bs : List Blk} {w w' : World} {L : Nat} : ∀ {n : Nat} {io : Int} {p : Value}, Grn is bs n w L io p → (∀ k, L ≤ k → k < w.heap.size → w'.heap[k]? = w.heap[k]?) → Grn is bs n w' L io p
  | 0, _, _, h, _ => h
  | _ + 1, _, _, ⟨l, f, h1, h2, h3, h4, h5⟩, hh => ⟨l, f, h1, h2, h3, h4.heap (fun b hb => by
      obtain ⟨j, hj, rfl⟩ := List.getElem_of_mem hb
      exact hh _ (h3 _ hb) (h4 j hj).lt), fun j hj => (h5 j hj).heap hh⟩
theorem Grn.mono {is : List Ino} {bs : List Blk} {w : World} {L L' : Nat} (hL : L' ≤ L) : ∀ {n : Nat} {io : Int} {p : Value}, Grn is bs n w L io p → Grn is bs n w L' io p
  | 0, _, _, h => h
  | _ + 1, _, _, ⟨l, f, h1, h2, h3, h4, h5⟩ => ⟨l, f, h1, h2, fun b hb => Nat.le_trans hL (h3 b hb), h4, fun j hj => (h5 j hj).mono hL⟩
theorem Grn.ptr {is : List Ino} {bs : List Blk} {w : World} {L : Nat} : ∀ {n : Nat} {io : Int} {p : Value}, Grn is bs n w L io p → ∃ a, p = .pointer a
  | 0, _, _, h => ⟨_, h⟩
  | _ + 1, _, _, ⟨l, _, h1, _⟩ => by obtain ⟨a, e⟩ := ptrB_form l; exact ⟨a, h1.trans e⟩
/-- What the closures have in sight: the disk and themselves. -/
structure Ctx (w0 w : World) (dk gk : Nat) (D : Array Value) (T : TypeId) (F : Array Value) : Prop where
  b : Below w0.heap.size w0 w
  d : AtC w dk 36 D
  g : AtC w gk T F
  ld : w0.heap.size ≤ dk
  lg : w0.heap.size ≤ gk
theorem Ctx.chg {w0 w w' : World} {dk gk : Nat} {D : Array Value} {T : TypeId} {F : Array Value} {S : Nat → Prop} (h : Ctx w0 w dk gk D T F) (hc : Chg S w w') (hs : ∀ k, S k → w0.heap.size ≤ k) (hd : ¬ S dk) (hg : ¬ S gk) : Ctx w0 w' dk gk D T F :=
  ⟨h.b.trans (hc.below h.b.size hs), (hc.block dk h.d.lt hd).trans h.d, (hc.block gk h.g.lt hg).trans h.g, h.ld, h.lg⟩
theorem foldl_take {ns : List Sl} {q : Nat} (h : q < ns.length) : (ns.take (q + 1)).foldl ins [] = ins ((ns.take q).foldl ins []) ns[q] := by
  rw [List.take_succ_eq_append_getElem h, List.foldl_append]
  rfl
/-- Building the names: the chain so far, in blocks from B on; all else of old stays but the branch's own block. -/
structure Bld (w wr : World) (bk B : Nat) (nm : ByteArray) (io : Int) (nx : Value) (l : List Br) (v : List Sl) : Prop where
  c : Chn wr l
  n : (l.map (·.1)).Nodup
  v : l.map (·.2) = v
  i : ∀ b ∈ l, B ≤ b.1
  a : AtC wr bk 58 #[.string nm, .int .i64 io, nx, ptrB l]
  g : Chg (fun k => k = bk) w wr
theorem Bld.below {w wr wr' : World} {bk B : Nat} {nm : ByteArray} {io : Int} {nx : Value} {l : List Br} {v : List Sl} (h : Bld w wr bk B nm io nx l v) (hb : Below wr.heap.size wr wr') : Bld w wr' bk B nm io nx l v :=
  ⟨h.c.below hb, h.n, h.v, h.i, h.a.over hb, h.g.trans (Chg.of_below hb)⟩
theorem Bld.step {w wr w5 : World} {bk B : Nat} {nm : ByteArray} {io : Int} {nx : Value} {l l' : List Br} {v : List Sl} {s : Sl} (h : Bld w wr bk B nm io nx l v) (hB : w.heap.size ≤ B) (hbk : bk < w.heap.size) (hBs : B ≤ wr.heap.size) (h5 : Wth wr w5 l l' s) : AtC w5 bk 58 #[.string nm, .int .i64 io, nx, ptrB l] ∧ Bld w (w5.setCell ⟨bk, 3, none⟩ (ptrB l')) bk B nm io nx l' (ins v s) := by
  have hnot : ¬ InB l bk := fun ⟨x, hx, e⟩ => by have := h.i x hx; omega
  have A5 : AtC w5 bk 58 #[.string nm, .int .i64 io, nx, ptrB l] := (h5.g.block bk h.a.lt hnot).trans h.a
  have hi : ∀ b ∈ l', B ≤ b.1 := fun b hb => (h5.i b hb).elim (fun ⟨x, hx, e⟩ => by rw [← e]; exact h.i x hx) (fun e => by omega)
  refine ⟨A5, h5.c.heap fun x hx => heap_setCell_other w5 ⟨bk, 3, none⟩ x.1 _ (by have := hi x hx; show x.1 ≠ bk; omega), h5.n, by rw [h5.v, h.v], hi, A5.set 3 (ptrB l'), ?_⟩
  have g1 : Chg (fun k => k = bk) w w5 := ⟨h5.g.os.trans h.g.os, h5.g.tape.trans h.g.tape, h5.g.output.trans h.g.output, Nat.le_trans h.g.size h5.g.size, fun k hk hn => (h5.g.block k (by have := h.g.size; omega) (fun ⟨x, hx, e⟩ => by have := h.i x hx; omega)).trans (h.g.block k hk hn)⟩
  exact g1.setCell rfl _
end Go.Proofs.Ytljooldjcefkoaa
/- The closure of impl.branchesFrom by its contract. -/
namespace Go.Proofs.Ytljooldjcefkoaa
open Go.RowKit Kit
/-- Growing branches one by one: the first q of them have what is below them. -/
structure Lp (is : List Ino) (bs : List Blk) (n : Nat) (w W2 wr : World) (bk q : Nat) (nm : ByteArray) (io : Int) (na : Option Addr) (l : List Br) (f : Nat → Value) : Prop where
  r : Row4 wr l f
  a : AtC wr bk 58 #[.string nm, .int .i64 io, .pointer na, ptrB l]
  g : Chg (fun k => k = bk) w wr
  z : W2.heap.size ≤ wr.heap.size
  d : ∀ (j : Nat) (hj : j < l.length), j < q → Grn is bs n wr W2.heap.size l[j].2.2 (f j)
  u : ∀ j, q ≤ j → f j = .pointer none
theorem Lp.step {is : List Ino} {bs : List Blk} {n : Nat} {w W2 wr w' : World} {bk q : Nat} {nm : ByteArray} {io : Int} {na : Option Addr} {l : List Br} {f : Nat → Value} {v : Value} (h : Lp is bs n w W2 wr bk q nm io na l f) (hq : q < l.length) (hn : (l.map (·.1)).Nodup) (hw : ∀ b ∈ l, w.heap.size ≤ b.1 ∧ b.1 < W2.heap.size) (hbk : bk < w.heap.size)
    (hA : AtC w' l[q].1 58 #[.string l[q].2.1, .int .i64 l[q].2.2, ptrB (l.drop (q + 1)), v]) (hG : Grn is bs n w' wr.heap.size l[q].2.2 v) (hC : Chg (fun k => k = l[q].1) wr w') : Lp is bs n w W2 w' bk (q + 1) nm io na l (fun j => if j = q then v else f j) := by
  have hwq := hw _ (List.getElem_mem hq)
  refine ⟨fun j hj => ?_, (hC.block bk h.a.lt (by show ¬ bk = l[q].1; omega)).trans h.a, ?_, Nat.le_trans h.z hC.size, fun j hj hjq => ?_, fun j hj => ?_⟩
  · by_cases e : j = q
    · subst e
      rw [if_pos rfl]
      exact hA
    · rw [if_neg e]
      refine (hC.block _ (h.r j hj).lt (fun e2 => e ?_)).trans (h.r j hj)
      have h1 : (l.map (·.1))[j]'(by simpa using hj) = (l.map (·.1))[q]'(by simpa using hq) := by simpa using e2
      exact (List.getElem_inj hn).1 h1
  · exact ⟨hC.os.trans h.g.os, hC.tape.trans h.g.tape, hC.output.trans h.g.output, Nat.le_trans h.g.size hC.size, fun k hk hne => (hC.block k (by have := h.g.size; omega) (by show ¬ k = l[q].1; omega)).trans (h.g.block k hk hne)⟩
  · by_cases e : j = q
    · subst e
      rw [if_pos rfl]
      exact hG.mono h.z
    · rw [if_neg e]
      exact (h.d j hj (by omega)).heap fun k hk hk2 => hC.block k hk2 (by show ¬ k = l[q].1; omega)
  · rw [if_neg (by omega)]
    exact h.u j (by omega)
theorem ptrB_drop {l : List Br} {q : Nat} (h : q < l.length) : ptrB (l.drop q) = .pointer (some ⟨l[q].1, 0, none⟩) := by
  rw [List.drop_eq_getElem_cons h]
  rfl
theorem ptrB_end {l : List Br} {q : Nat} (h : l.length ≤ q) : ptrB (l.drop q) = .pointer none := by
  rw [List.drop_eq_nil_of_le h]
  rfl
set_option maxRecDepth 100000 in
set_option maxHeartbeats 6400000 in
theorem grow_any (dx dy iv bv : Value) (xs ys : List Bool) (is : List Ino) (bs : List Blk) (hR : RD is bs) (w0 : World) (h0 : DR w0 dx dy iv bv xs ys is bs) (dk gq : Nat) : ∀ (n D : Nat), D + n = 4 → ∀ (bk : Nat) (nm : ByteArray) (io : Int) (na : Option Addr) (w : World), Ctx w0 w dk gq #[dx, dy, iv, bv] 97 #[.func (.func 53) #[] #[.pointer (some ⟨dk, 0, none⟩), .pointer (some ⟨gq, 0, none⟩)]] → AtC w bk 58 #[.string nm, .int .i64 io, .pointer na, .pointer none] → w0.heap.size ≤ bk → bk ≠ dk → bk ≠ gq →
    Calls Try.prog 53 #[.pointer (some ⟨bk, 0, none⟩), .int .i64 (D : Int), .pointer (some ⟨dk, 0, none⟩), .pointer (some ⟨gq, 0, none⟩)] w fun e w' => e = .returned (.tuple #[]) ∧ ∃ v, AtC w' bk 58 #[.string nm, .int .i64 io, .pointer na, v] ∧ Grn is bs n w' w.heap.size io v ∧ Chg (fun k => k = bk) w w' := by
  intro n
  induction n with
  | zero =>
    intro D hn bk nm io na w hC hA hb0 hbd hbg
    have hD : D = 4 := by omega
    subst hD
    have HA := hide hA
    clear hA hC
    go_enter Try.func53, Try.ntmps53
    go_wp2
    refine bodyPost_ret (v := .tuple #[]) (by simp [results, go_sem]) rfl ⟨rfl, _, HA.out, rfl, Chg.refl _ _⟩
  | succ n ih =>
    intro D hn bk nm io na w hC hA hb0 hbd hbg
    have IH := hide ih
    have HC := hide hC
    have HA := hide hA
    have HR := hide hR
    have hD4 : ((D : Int) == 4) = false := by simp; omega
    have hbk := hA.lt
    have p1 : w.cell? ⟨bk, 1, none⟩ = some (.int .i64 io) := hA.cell 1
    have z0 : w.cell? ⟨dk, 0, none⟩ = some dx := hC.d.cell 0
    have z1 : w.cell? ⟨dk, 1, none⟩ = some dy := hC.d.cell 1
    have z2 : w.cell? ⟨dk, 2, none⟩ = some iv := hC.d.cell 2
    have z3 : w.cell? ⟨dk, 3, none⟩ = some bv := hC.d.cell 3
    have CN := hide (fun W hd => namedI_any io dx dy iv bv xs ys is bs W hd hR)
    have HN8 := hide (hR.named8 io)
    have HKD : Hid (kids is bs io = (named is bs io).foldl ins []) := rfl
    obtain ⟨ns, hns⟩ : ∃ l, named is bs io = l := ⟨_, rfl⟩
    rw [hns] at CN HN8 HKD
    obtain ⟨a1, c1, a2, c2, a3, c3, a4, c4, rfl, rfl, rfl, rfl⟩ := h0.form
    have H0 := hide h0
    clear ih hC hA hR hns h0
    go_enter Try.func53, Try.ntmps53
    go_upto_region 1 with fail
    go_cut [16, 17, 18] from 11 to 18 (fun sv lv kv wx => ∃ (sa : Option Addr) (sc : Nat), sv = .slice sa ns.length sc ∧ lv = .int .i64 (ns.length : Int) ∧ kv = .int .i64 0 ∧ SOwns wx w.heap.size 100 (.slice sa ns.length sc) ns ∧ Below w.heap.size w wx)
    case first =>
      have HDR := hide (H0.out.below HC.out.b (Nat.le_refl _))
      go_region_with (go_at_call 54; refine (CN.out _ HDR.out.drew).mono ?_; rintro e w5 ⟨v5, rfl, S5, B5⟩; obtain ⟨sa, sc, rfl, -⟩ := S5.form)
      all_goals (try go_wp2_with fail)
      all_goals (go_meet; exact ⟨sa, sc, rfl, rfl, rfl, S5, of_drew B5⟩)
    case rest =>
      obtain ⟨sa, sc, rfl, rfl, rfl, S1, B1⟩ := hcut
      obtain ⟨w1, hw1⟩ : ∃ w1, w1 = wc := ⟨_, rfl⟩
      subst hw1
      have HS1 := hide S1
      have HB1 := hide B1
      have HBL0 : Hid (Bld w w1 bk w1.heap.size nm io (.pointer na) [] []) := ⟨trivial, by simp, rfl, (fun b hb => by cases hb), HA.out.over B1, Chg.of_below B1⟩
      clear S1 B1 z0 z1 z2 z3 p1 CN
      go_wp2_with fail
      go_loopw [18] (fun kv wr => ∃ q : Nat, q ≤ ns.length ∧ kv = .int .i64 q ∧ Hid (SOwns wr w.heap.size 100 (.slice sa ns.length sc) ns ∧ w1.heap.size ≤ wr.heap.size ∧ ∃ l : List Br, Bld w wr bk w1.heap.size nm io (.pointer na) l ((ns.take q).foldl ins []))) (fun kv _ => ns.length - (intOf kv).toNat)
      case atStart => exact ⟨0, Nat.zero_le _, rfl, HS1.out, Nat.le_refl _, [], HBL0.out⟩
      case round =>
        obtain ⟨q, hq, rfl, HQ⟩ := hrel
        clear HBL0
        have q0 : (0 : Int) ≤ (q : Int) := by omega
        have q8 : q ≤ 8 := Nat.le_trans hq HN8.out
        by_cases hlt : q < ns.length
        · have q1 : (q : Int) < (ns.length : Int) := by omega
          obtain ⟨hS, hz, l, hl⟩ := HQ.out
          obtain ⟨gs, cs, e1, e2, e3, -, hgs1, hgs2, -⟩ := hS.at q hlt
          simp only [Value.slice.injEq, true_and] at e1
          obtain ⟨rfl, rfl⟩ := e1
          have HFT := hide (foldl_take hlt)
          obtain ⟨⟨sn, si⟩, hsn⟩ : ∃ X, ns[q] = X := ⟨_, rfl⟩
          rw [hsn] at e2 e3 HFT
          simp only at e2 e3
          have HL := hide hl
          have HSO := hide hS
          have hgsw : ¬ gs = wr.heap.size := by omega
          have hbw : bk < wr.heap.size := hl.a.lt
          have hbw2 : ¬ bk = wr.heap.size := by omega
          obtain ⟨lp, hlp⟩ := ptrB_form l
          have p3 : wr.cell? ⟨bk, 3, none⟩ = some (.pointer lp) := (hl.a.cell 3).trans (by rw [hlp]; rfl)
          have HLP := hide hlp
          clear hsn hl hS HQ hlp
          obtain ⟨V, hV⟩ : ∃ V, wr.alloc (.cells #[.string sn, .int .i64 si] 100) = V := ⟨_, rfl⟩
          have HBV : Hid (Below wr.heap.size wr V ∧ AtC V wr.heap.size 100 #[.string sn, .int .i64 si]) := by rw [← hV]; exact ⟨(Below.refl _ wr).alloc (Nat.le_refl _) _, AtC.new wr 100 _⟩
          go_upto_region 4 with fail
          clear hV p3 e2 e3
          have HB2 := hide (HL.out.below HBV.out.1)
          have p3 : V.cell? ⟨bk, 3, none⟩ = some (.pointer lp) := (HB2.out.a.cell 3).trans (by rw [HLP.out]; rfl)
          have s0 : V.cell? ⟨wr.heap.size, 0, none⟩ = some (.string sn) := HBV.out.2.cell 0
          have s1 : V.cell? ⟨wr.heap.size, 1, none⟩ = some (.int .i64 si) := HBV.out.2.cell 1
          have CW := hide (fun W (hb : Below V.heap.size V W) => with_any sn si l W (HB2.out.c.below hb) HB2.out.n)
          rw [HLP.out] at CW
          have HST : Hid (∀ W w5 l5, Below V.heap.size V W → Wth W w5 l l5 (sn, si) → AtC w5 bk 58 #[.string nm, .int .i64 io, .pointer na, .pointer lp] ∧ (SOwns (w5.setCell ⟨bk, 3, none⟩ (ptrB l5)) w.heap.size 100 (.slice (some ⟨gs, 0, none⟩) ns.length sc) ns ∧ w1.heap.size ≤ (w5.setCell ⟨bk, 3, none⟩ (ptrB l5)).heap.size ∧ ∃ l : List Br, Bld w (w5.setCell ⟨bk, 3, none⟩ (ptrB l5)) bk w1.heap.size nm io (.pointer na) l ((ns.take (q + 1)).foldl ins []))) := fun W w5 l5 hb h5 => by
            have sV := HBV.out.1.size
            have sW := hb.size
            have hBW := HB2.out.below hb
            obtain ⟨A5, B5⟩ := hBW.step HB1.out.size hbk (by omega) h5
            rw [HLP.out] at A5
            have SV : SOwns W w.heap.size 100 (.slice (some ⟨gs, 0, none⟩) ns.length sc) ns := (HSO.out.below HBV.out.1 (Nat.le_refl _)).below hb (Nat.le_refl _)
            refine ⟨A5, ?_, ?_, l5, ?_⟩
            · refine SV.of_heap fun k hk => ?_
              simp [Value.ownBlock] at hk
              subst hk
              refine (heap_setCell_other w5 ⟨bk, 3, none⟩ gs _ (by show gs ≠ bk; omega)).trans (h5.g.block gs (by omega) (fun ⟨x, hx, e⟩ => ?_))
              have := HB2.out.i x hx
              have := HS1.out.lt gs rfl
              omega
            · have := h5.g.size
              simp
              omega
            · rw [HFT.out]
              exact B5
          go_region_with (go_at_call 55; refine (CW.out _ (Below.refl _ _).drew).mono ?_; rintro e w5 ⟨l5, rfl, H5⟩; obtain ⟨A5, HF5⟩ := HST.out _ _ _ (Below.refl _ _).drew H5; obtain ⟨q5, hq5⟩ := ptrB_form l5; have k2 : w5.cell? ⟨bk, 3, none⟩ = some (.pointer lp) := A5.cell 3; have f2 := A5.frozen 3; have HQ5 := hide HF5; rw [hq5] at HQ5; rw [hq5]; clear A5 HF5 H5 hq5)
          all_goals
            go_wp2
            go_roundw
            case rel => exact ⟨q + 1, by omega, by go_num, HQ5.out⟩
            case measure => simp [intOf]; omega
        · have q1 : ¬ ((q : Int) < (ns.length : Int)) := by omega
          obtain ⟨-, hz, l, hl⟩ := HQ.out
          rw [List.take_of_length_le (by omega), ← HKD.out] at hl
          have HL := hide hl
          have hbw : bk < wr.heap.size := hl.a.lt
          obtain ⟨lp, hlp⟩ := ptrB_form l
          have p3 : wr.cell? ⟨bk, 3, none⟩ = some (.pointer lp) := (hl.a.cell 3).trans (by rw [hlp]; rfl)
          have HLP := hide hlp
          obtain ⟨W2, hW2⟩ : ∃ W2, W2 = wr := ⟨_, rfl⟩
          subst hW2
          have HLW : Hid (∀ b ∈ l, w.heap.size ≤ b.1 ∧ b.1 < W2.heap.size) := fun b hb => ⟨Nat.le_trans HB1.out.size (HL.out.i b hb), HL.out.c.lt b hb⟩
          have HP0 : Hid (∃ f, Lp is bs n w W2 W2 bk 0 nm io na l f) := ⟨_, Row4.of_chn HL.out.c, HL.out.a, HL.out.g, Nat.le_refl _, fun j hj h => absurd h (Nat.not_lt_zero _), fun j _ => rfl⟩
          have HLZ : Hid (ptrB (l.drop 0) = .pointer lp) := hlp
          clear hl hlp HQ HS1
          go_wp2_with fail
          go_loopg [8] l.length (fun kk pv wr => ∃ q : Nat, q + kk = l.length ∧ pv = ptrB (l.drop q) ∧ Hid (∃ f, Lp is bs n w W2 wr bk q nm io na l f))
          case atStart => exact ⟨0, by omega, HLZ.out.symm, HP0.out⟩
          case round =>
            obtain ⟨q', hqk, hpv, HLPW⟩ := hrel
            clear HP0 p3 HLZ
            by_cases hlt : q' < l.length
            · rw [ptrB_drop hlt] at hpv
              subst hpv
              obtain ⟨f, hf⟩ := HLPW.out
              have HF := hide hf
              have hrow := hf.r q' hlt
              rw [hf.u q' (Nat.le_refl _)] at hrow
              have hctx := HC.out.chg hf.g (fun k hk => by rw [hk]; exact hb0) (fun e => hbd e.symm) (fun e => hbg e.symm)
              have hwq := HLW.out _ (List.getElem_mem hlt)
              have hdk := HC.out.d.lt
              have hgq := HC.out.g.lt
              have hws := HC.out.b.size
              have HST := hide (fun w' v h1 h2 h3 => hf.step (w' := w') (v := v) hlt HL.out.n HLW.out hbk h1 h2 h3)
              obtain ⟨np, hnp⟩ := ptrB_form (l.drop (q' + 1))
              rw [hnp] at hrow HST
              have IH2 := hide (IH.out (D + 1) (by omega) l[q'].1 l[q'].2.1 l[q'].2.2 np wr hctx hrow (by omega) (by omega) (by omega))
              rw [Int.natCast_add, Int.natCast_one] at IH2
              have HNP := hide hnp
              obtain ⟨cb, hcb⟩ : ∃ c, l[q'].1 = c := ⟨_, rfl⟩
              rw [hcb] at IH2 HST
              rw [hcb]
              have g0 : wr.cell? ⟨gq, 0, none⟩ = some (.func (.func 53) #[] #[.pointer (some ⟨dk, 0, none⟩), .pointer (some ⟨gq, 0, none⟩)]) := hctx.g.cell 0
              clear hf hrow hctx hnp hwq hdk hgq hws hcb
              go_wp2_with fail
              refine IH2.out.mono ?_
              rintro e w5 ⟨rfl, v5, A5, G5, C5⟩
              have k2 : w5.cell? ⟨cb, 2, none⟩ = some (.pointer np) := A5.cell 2
              have HN := hide (HST.out _ _ A5 G5 C5)
              clear A5 G5 C5 HST IH2 g0
              go_wp2
              go_roundg (l.length - (q' + 1))
              case measure => omega
              case rel => exact ⟨q' + 1, by omega, HNP.out.symm, _, HN.out⟩
            · rw [ptrB_end (by omega)] at hpv
              subst hpv
              obtain ⟨f, hf⟩ := HLPW.out
              have HF := hide hf
              clear hf
              go_wp2
              go_end0
              refine ⟨rfl, ptrB l, HF.out.a, ⟨l, f, rfl, HL.out.v, fun b hb => (HLW.out b hb).1, HF.out.r, fun j hj => (HF.out.d j hj (by omega)).mono ?_⟩, HF.out.g⟩
              exact HL.out.g.size
end Go.Proofs.Ytljooldjcefkoaa
/- impl.branchesFrom by its contract, at right disks. -/
namespace Go.Proofs.Ytljooldjcefkoaa
open Go.RowKit Kit
set_option maxRecDepth 100000 in
set_option maxHeartbeats 1600000 in
theorem branches_any (dx dy iv bv : Value) (xs ys : List Bool) (is : List Ino) (bs : List Blk) (w : World) (h : DR w dx dy iv bv xs ys is bs) (hR : RD is bs) :
    Calls Try.prog 26 #[.agg #[dx, dy, iv, bv]] w fun e w' => ∃ bk v, e = .returned (.pointer (some ⟨bk, 0, none⟩)) ∧ AtC w' bk 58 #[.string ⟨#[]⟩, .int .i64 1, .pointer none, v] ∧ Grn is bs 4 w' w.heap.size 1 v ∧ Below w.heap.size w w' := by
  have HH := hide h
  have HR := hide hR
  obtain ⟨a1, c1, a2, c2, a3, c3, a4, c4, rfl, rfl, rfl, rfl⟩ := h.form
  have hmf : ∀ (fn : Fn) (first cap : Array Value) (w : World), (Instr.makeFunc fn first cap).run Try.prog w = .ok (.func fn first cap) w := fun _ _ _ _ => rfl
  clear h hR
  obtain ⟨W, hW⟩ : ∃ W, (((w.alloc (.cells #[.slice a1 xs.length c1, .slice a2 ys.length c2, .slice a3 is.length c3, .slice a4 bs.length c4] 36)).alloc (.cells #[.func (.func 53) #[] #[.pointer (some ⟨w.heap.size, 0, none⟩), .pointer (some ⟨w.heap.size + 1, 0, none⟩)]] 97)).alloc (.cells #[.string ⟨#[]⟩, .int .i64 1, .pointer none, .pointer none] 58)) = W := ⟨_, rfl⟩
  have HC : Hid (Ctx w W w.heap.size (w.heap.size + 1) #[.slice a1 xs.length c1, .slice a2 ys.length c2, .slice a3 is.length c3, .slice a4 bs.length c4] 97 #[.func (.func 53) #[] #[.pointer (some ⟨w.heap.size, 0, none⟩), .pointer (some ⟨w.heap.size + 1, 0, none⟩)]] ∧ AtC W (w.heap.size + 1 + 1) 58 #[.string ⟨#[]⟩, .int .i64 1, .pointer none, .pointer none]) := by
    rw [← hW]
    have a := AtC.new (w.alloc (.cells #[.slice a1 xs.length c1, .slice a2 ys.length c2, .slice a3 is.length c3, .slice a4 bs.length c4] 36)) 97 #[.func (.func 53) #[] #[.pointer (some ⟨w.heap.size, 0, none⟩), .pointer (some ⟨w.heap.size + 1, 0, none⟩)]]
    rw [World.size_alloc] at a
    have b := AtC.new ((w.alloc (.cells #[.slice a1 xs.length c1, .slice a2 ys.length c2, .slice a3 is.length c3, .slice a4 bs.length c4] 36)).alloc (.cells #[.func (.func 53) #[] #[.pointer (some ⟨w.heap.size, 0, none⟩), .pointer (some ⟨w.heap.size + 1, 0, none⟩)]] 97)) 58 #[.string ⟨#[]⟩, .int .i64 1, .pointer none, .pointer none]
    rw [World.size_alloc, World.size_alloc] at b
    exact ⟨⟨(((Below.refl _ w).alloc (Nat.le_refl _) _).alloc (by simp) _).alloc (by simp; omega) _, ((AtC.new w 36 _).alloc _).alloc _, a.alloc _, Nat.le_refl _, by omega⟩, b⟩
  have HW := hide hW
  clear hW
  have CG := hide (grow_any (.slice a1 xs.length c1) (.slice a2 ys.length c2) (.slice a3 is.length c3) (.slice a4 bs.length c4) xs ys is bs HR.out w HH.out w.heap.size (w.heap.size + 1) 4 0 rfl (w.heap.size + 1 + 1) ⟨#[]⟩ 1 none W HC.out.1 HC.out.2 (by omega) (by omega) (by omega))
  go_enter Try.func26, Try.ntmps26
  go_wp2_with fail
  rw [HW.out]
  refine CG.out.mono ?_
  rintro e w5 ⟨rfl, v5, A5, G5, C5⟩
  have HF := hide (And.intro A5 (And.intro (G5.mono HC.out.1.b.size) (HC.out.1.b.trans (C5.below HC.out.1.b.size (fun k hk => by rw [hk]; omega)))))
  clear A5 G5 C5 CG
  go_wp2
  go_ret
  exact ⟨_, v5, rfl, HF.out.1, HF.out.2.1, HF.out.2.2⟩
end Go.Proofs.Ytljooldjcefkoaa
/- The closure of impl.TreeOf by its contract: what it tells. -/
namespace Go.Proofs.Ytljooldjcefkoaa
open Go.RowKit Kit
/-- What is told of a branch and below it. -/
def nodeI (is : List Ino) (bs : List Blk) (rec : Int → ByteArray → List Nd) (path : ByteArray) (s : Sl) : List Nd :=
  if kindAt is s.2 = 0 then [] else (joinP path s.1, kindAt is s.2 == 2, (textsAt is bs s.2).1, (textsAt is bs s.2).2) :: rec s.2 (joinP path s.1)
/-- What is told below a directory, n deep. -/
def tellI (is : List Ino) (bs : List Blk) : Nat → Int → ByteArray → List Nd
  | 0, _, _ => []
  | n + 1, i, path => (kids is bs i).flatMap (nodeI is bs (tellI is bs n) path)
theorem ins_mem {s x : Sl} : ∀ {l : List Sl}, x ∈ ins l s → x = s ∨ x ∈ l
  | [], h => by simp [ins] at h; exact .inl h
  | t :: r, h => by
    rw [ins] at h
    split at h
    · simp at h
      rcases h with h | h | h
      · exact .inl h
      · exact .inr (by simp [h])
      · exact .inr (by simp [h])
    · split at h
      · rcases List.mem_cons.1 h with h | h
        · exact .inr (by simp [h])
        · exact (ins_mem h).imp id (fun e => by simp [e])
      · exact .inr h
theorem ins_len (s : Sl) : ∀ l : List Sl, (ins l s).length ≤ l.length + 1
  | [] => by simp [ins]
  | t :: r => by
    have := ins_len s r
    rw [ins]
    split
    · simp
    · split
      · simp; exact this
      · simp
theorem foldl_mem {x : Sl} : ∀ {ns l : List Sl}, x ∈ ns.foldl ins l → x ∈ ns ∨ x ∈ l
  | [], l, h => .inr h
  | s :: r, l, h => by
    rcases foldl_mem (ns := r) h with h | h
    · exact .inl (by simp [h])
    · rcases ins_mem h with h | h
      · exact .inl (by simp [h])
      · exact .inr h
theorem foldl_len : ∀ (ns l : List Sl), (ns.foldl ins l).length ≤ l.length + ns.length
  | [], l => by simp
  | s :: r, l => by
    have h1 := foldl_len r (ins l s)
    have h2 := ins_len s l
    simp only [List.foldl_cons, List.length_cons]
    omega
theorem kids_mem {is : List Ino} {bs : List Blk} {i : Int} {x : Sl} (h : x ∈ kids is bs i) : x ∈ named is bs i := (foldl_mem h).resolve_right (by simp)
theorem kids_len {is : List Ino} {bs : List Blk} (h : RD is bs) (i : Int) : (kids is bs i).length ≤ 8 := by
  have h1 := foldl_len (named is bs i) []
  have h2 := h.named8 i
  unfold kids
  simp at h1
  omega
theorem nodeI_len {is : List Ino} {bs : List Blk} {n : Nat} {rec : Int → ByteArray → List Nd} (h : ∀ i p, (rec i p).length ≤ deepN n) (path : ByteArray) (s : Sl) : (nodeI is bs rec path s).length ≤ 1 + deepN n := by
  unfold nodeI
  split
  · simp
  · have := h s.2 (joinP path s.1); simp; omega
theorem tellI_len {is : List Ino} {bs : List Blk} (hR : RD is bs) : ∀ (n : Nat) (i : Int) (p : ByteArray), (tellI is bs n i p).length ≤ deepN n
  | 0, _, _ => by simp [tellI]
  | n + 1, i, p => by
    rw [tellI, deepN]
    have h1 := flatMap_len (m := 1 + deepN n) (kids is bs i) (fun s _ => nodeI_len (is := is) (bs := bs) (tellI_len hR n) p s)
    have h3 := kids_len hR i
    have : (kids is bs i).length * (1 + deepN n) ≤ 8 * (1 + deepN n) := Nat.mul_le_mul_right _ h3
    omega
/-- Telling under way: of old only the list's own variable changes; the list lies in new memory. -/
structure Tl (w1 wr : World) (lk : Nat) (ol : List Nd) : Prop where
  g : Chg (fun k => k = lk) w1 wr
  l : ∃ lv, AtC wr lk 30 #[lv] ∧ NdO wr w1.heap.size lv ol
theorem Tl.below {w1 wr wr' : World} {lk : Nat} {ol : List Nd} (h : Tl w1 wr lk ol) (hb : Below wr.heap.size wr wr') : Tl w1 wr' lk ol := by
  obtain ⟨lv, h1, h2⟩ := h.l
  exact ⟨h.g.trans (Chg.of_below hb), lv, h1.over hb, h2.below hb⟩
theorem Tl.at {w1 wr : World} {lk : Nat} {ol : List Nd} (h : Tl w1 wr lk ol) {b : Nat} {T : TypeId} {cs : Array Value} (ha : AtC w1 b T cs) (hb : b ≠ lk) : AtC wr b T cs := (h.g.block b ha.lt hb).trans ha
theorem Tl.app {w1 W w9 : World} {lk : Nat} {lv v9 : Value} {cur new : List Nd} (hg : Chg (fun k => k = lk) w1 W) (hA : AtC W lk 30 #[lv]) (hlk : lk < w1.heap.size) (hN : NdO W w1.heap.size lv cur) (h9 : NdO w9 w1.heap.size v9 new) (G9 : W.grownBy w9 lv.ownBlock) : AtC w9 lk 30 #[lv] ∧ Tl w1 (w9.setCell ⟨lk, 0, none⟩ v9) lk new := by
  have A9 : AtC w9 lk 30 #[lv] := hA.grown G9 (fun e => by have := (hN.lt lk e).1; omega)
  have g9 : Chg (fun k => k = lk) w1 w9 := ⟨G9.os.trans hg.os, G9.tape.trans hg.tape, G9.output.trans hg.output, Nat.le_trans hg.size G9.size, fun k hk hn => (G9.block k (by have := hg.size; omega) (fun e => by have := (hN.lt k e.symm).1; omega)).trans (hg.block k hk hn)⟩
  exact ⟨A9, g9.setCell rfl _, v9, A9.set 0 v9, h9.of_heap fun k hk => heap_setCell_other w9 ⟨lk, 0, none⟩ k _ (by have := (h9.lt k hk).1; show k ≠ lk; omega)⟩
/-- A slice of one struct that was just built. -/
def MkS1 (d : Nat) (T : TypeId) (Z : Array Value) : Mk := .val [d] (fun lo _ w v => v = .slice (some ⟨lo, 0, none⟩) 1 1 ∧ AtC w lo T Z) (fun _ _ _ _ _ h hb => ⟨h.1, h.2.over hb⟩)
theorem flat_snoc {l : List Sl} {g : Sl → List Nd} {q : Nat} (h : q < l.length) : (l.take (q + 1)).flatMap g = (l.take q).flatMap g ++ g l[q] := by
  rw [List.take_succ_eq_append_getElem h, List.flatMap_append, List.flatMap_cons, List.flatMap_nil, List.append_nil]
set_option maxRecDepth 100000 in
set_option maxHeartbeats 6400000 in
theorem tell_any (dx dy iv bv : Value) (xs ys : List Bool) (is : List Ino) (bs : List Blk) (hR : RD is bs) (w0 w1 : World) (h0 : DR w0 dx dy iv bv xs ys is bs) (hb01 : Below w0.heap.size w0 w1) (dk lk gq L : Nat) (hdk : AtC w1 dk 36 #[dx, dy, iv, bv]) (hgq : AtC w1 gq 55 #[.func (.func 23) #[] #[.pointer (some ⟨dk, 0, none⟩), .pointer (some ⟨lk, 0, none⟩), .pointer (some ⟨gq, 0, none⟩)]]) (hlk : lk < w1.heap.size) (hl0 : w0.heap.size ≤ lk) (hdl : dk ≠ lk) (hgl : gq ≠ lk) (hL : lk < L) : ∀ (n D : Nat), D + n = 4 → ∀ (bk : Nat) (nm : ByteArray) (io : Int) (na : Option Addr) (v : Value) (path : ByteArray) (ol : List Nd) (w : World), AtC w1 bk 58 #[.string nm, .int .i64 io, .pointer na, v] → bk ≠ lk → Grn is bs n w1 L io v → path.size ≤ 7 * D → ol.length ≤ 10000000 * (1 + D) → Tl w1 w lk ol →
    Calls Try.prog 23 #[.pointer (some ⟨bk, 0, none⟩), .string path, .pointer (some ⟨dk, 0, none⟩), .pointer (some ⟨lk, 0, none⟩), .pointer (some ⟨gq, 0, none⟩)] w fun e w' => e = .returned (.tuple #[]) ∧ Tl w1 w' lk (ol ++ tellI is bs n io path) := by
  intro n
  induction n with
  | zero =>
    intro D hn bk nm io na v path ol w hA hbl hG hp hol hT
    have hv : v = .pointer none := hG
    subst hv
    have p3 : w.cell? ⟨bk, 3, none⟩ = some (.pointer none) := (hT.at hA hbl).cell 3
    have HT := hide hT
    clear hA hG hT
    go_enter Try.func23, Try.ntmps23
    go_wp2_with fail
    go_rounds 1
    go_end0
    refine ⟨rfl, ?_⟩
    rw [tellI, List.append_nil]
    exact HT.out
  | succ n ih =>
    intro D hn bk nm io na v path ol w hA hbl hG hp hol hT
    obtain ⟨l, f, rfl, hlv, hlL, hrow, hgr⟩ := hG
    obtain ⟨lp, hlp⟩ := ptrB_form l
    have p3 : w.cell? ⟨bk, 3, none⟩ = some (.pointer lp) := ((hT.at hA hbl).cell 3).trans (by rw [hlp]; rfl)
    have HLZ : Hid (ptrB (l.drop 0) = .pointer lp) := hlp
    have IH := hide ih
    have HRD := hide hR
    have HT := hide hT
    have HP := hide hp
    have HOL := hide hol
    have HROW := hide (And.intro hrow (And.intro hgr hlL))
    have HKM : Hid (∀ (q : Nat) (hq : q < l.length), l[q].2.1.size ≤ 6) := fun q hq => by
      have : l[q].2 ∈ kids is bs io := by rw [← hlv]; exact List.mem_map_of_mem (List.getElem_mem hq)
      exact (nameOk_size (hR.name (kids_mem this))).2
    have HTE : Hid (tellI is bs (n + 1) io path = (l.map (·.2)).flatMap (nodeI is bs (tellI is bs n) path)) := by
      show tellI is bs (n + 1) io path = _
      rw [hlv]; rfl
    have HLEN : Hid (∀ q, (((l.map (·.2)).take q).flatMap (nodeI is bs (tellI is bs n) path)).length ≤ 4680) := fun q => by
      have h1 := flatMap_len (m := 1 + deepN n) ((l.map (·.2)).take q) (fun s _ => nodeI_len (is := is) (bs := bs) (tellI_len hR n) path s)
      have h2 : ((l.map (·.2)).take q).length ≤ 8 := by
        rw [hlv, List.length_take]
        have := kids_len hR io
        omega
      have h3 := deepN_le (n := n + 1) (by omega)
      rw [deepN] at h3
      have h4 : ((l.map (·.2)).take q).length * (1 + deepN n) ≤ 8 * (1 + deepN n) := Nat.mul_le_mul_right _ h2
      omega
    obtain ⟨a1, c1, a2, c2, a3, c3, a4, c4, rfl, rfl, rfl, rfl⟩ := h0.form
    have H0 := hide (And.intro h0 hb01)
    have HDK := hide hdk
    have HGQ := hide hgq
    obtain ⟨RES, hRES⟩ : ∃ r, tellI is bs (n + 1) io path = r := ⟨_, rfl⟩
    rw [hRES] at HTE ⊢
    clear ih hA hT hp hol hrow hgr hlL hlv hlp hR h0 hb01 hdk hgq hRES
    go_enter Try.func23, Try.ntmps23
    go_wp2_with fail
    go_loopg [7] l.length (fun kk pv wr => ∃ q : Nat, q + kk = l.length ∧ pv = ptrB (l.drop q) ∧ Hid (Tl w1 wr lk (ol ++ ((l.map (·.2)).take q).flatMap (nodeI is bs (tellI is bs n) path))))
    case atStart => exact ⟨0, by omega, HLZ.out.symm, hide (by simpa using HT.out)⟩
    case round =>
      obtain ⟨q, hqk, hpv, HTW⟩ := hrel
      clear HT p3 HLZ
      by_cases hlt : q < l.length
      rotate_left
      · rw [ptrB_end (by omega)] at hpv
        subst hpv
        go_wp2
        go_end0
        refine ⟨rfl, ?_⟩
        have := HTW.out
        rw [List.take_of_length_le (by rw [List.length_map]; omega), ← HTE.out] at this
        exact this
      rw [ptrB_drop hlt] at hpv
      subst hpv
      have HFS := hide (flat_snoc (l := l.map (·.2)) (g := nodeI is bs (tellI is bs n) path) (q := q) (by rw [List.length_map]; exact hlt))
      rw [List.getElem_map] at HFS
      have hrow := HROW.out.1 q hlt
      have hgr := HROW.out.2.1 q hlt
      have hcb := HROW.out.2.2 _ (List.getElem_mem hlt)
      have hnm6 := HKM.out q hlt
      obtain ⟨np, hnp⟩ := ptrB_form (l.drop (q + 1))
      have HNP := hide hnp
      rw [hnp] at hrow
      obtain ⟨⟨cb, ⟨sn, si⟩⟩, hX⟩ : ∃ X, l[q] = X := ⟨_, rfl⟩
      rw [hX] at hrow hgr HFS hcb hnm6
      rw [hX]
      simp only at hrow hgr hcb hnm6 ⊢
      have hcl : cb ≠ lk := by omega
      have HCB : Hid (∀ wr ol, Tl w1 wr lk ol → AtC wr cb 58 #[.string sn, .int .i64 si, .pointer np, f q] ∧ AtC wr dk 36 #[.slice a1 xs.length c1, .slice a2 ys.length c2, .slice a3 is.length c3, .slice a4 bs.length c4] ∧ AtC wr gq 55 #[.func (.func 23) #[] #[.pointer (some ⟨dk, 0, none⟩), .pointer (some ⟨lk, 0, none⟩), .pointer (some ⟨gq, 0, none⟩)]] ∧ DR wr (.slice a1 xs.length c1) (.slice a2 ys.length c2) (.slice a3 is.length c3) (.slice a4 bs.length c4) xs ys is bs) := fun wr ol hh => by
        refine ⟨hh.at hrow hcl, hh.at HDK.out hdl, hh.at HGQ.out hgl, H0.out.1.below (H0.out.2.trans (hh.g.below H0.out.2.size (fun k hk => by rw [hk]; exact hl0))) (Nat.le_refl _)⟩
      obtain ⟨cur, hcur⟩ : ∃ c, ol ++ ((l.map (·.2)).take q).flatMap (nodeI is bs (tellI is bs n) path) = c := ⟨_, rfl⟩
      have HCL : Hid (cur.length ≤ 10000000 * (1 + D) + 4680) := by
        show cur.length ≤ _
        rw [← hcur, List.length_append]
        have := HLEN.out q
        have := HOL.out
        omega
      rw [hcur] at HTW
      have HCUR := hide hcur
      have HGR := hide (And.intro hrow hgr)
      clear hrow hgr hnp hX hcur
      obtain ⟨A1, A2, A3, A4⟩ := HCB.out _ _ HTW.out
      have p0 : wr.cell? ⟨cb, 0, none⟩ = some (.string sn) := A1.cell 0
      have p1 : wr.cell? ⟨cb, 1, none⟩ = some (.int .i64 si) := A1.cell 1
      have p2 : wr.cell? ⟨cb, 2, none⟩ = some (.pointer np) := A1.cell 2
      have z0 : wr.cell? ⟨dk, 0, none⟩ = some (.slice a1 xs.length c1) := A2.cell 0
      have z1 : wr.cell? ⟨dk, 1, none⟩ = some (.slice a2 ys.length c2) := A2.cell 1
      have z2 : wr.cell? ⟨dk, 2, none⟩ = some (.slice a3 is.length c3) := A2.cell 2
      have z3 : wr.cell? ⟨dk, 3, none⟩ = some (.slice a4 bs.length c4) := A2.cell 3
      have HDR := hide A4
      clear A1 A2 A3 A4
      go_upto_region 3 with fail
      go_cut [24] from 13 to 45 (fun c wx => c = .bool (decide (¬ kindAt is si = 0)) ∧ Tl w1 wx lk cur)
      case first =>
        have CN := hide (isNode_any si (.slice a1 xs.length c1) (.slice a2 ys.length c2) (.slice a3 is.length c3) (.slice a4 bs.length c4) xs ys is bs wr.drew HDR.out.drew HRD.out)
        go_region_with (go_at_call 24; refine CN.out.mono ?_; rintro e w5 ⟨rfl, B5⟩)
        all_goals (try go_wp2_with fail)
        all_goals (go_meet; exact ⟨by simp only [decide_not], HTW.out.below (of_drew B5)⟩)
      case rest =>
        obtain ⟨rfl, hT2⟩ := hcut
        have HT2 := hide hT2
        clear hT2 p0 p1 p2 z0 z1 z2 z3 HTW HDR
        obtain ⟨A1, A2, A3, A4⟩ := HCB.out _ _ HT2.out
        have p0 : wc.cell? ⟨cb, 0, none⟩ = some (.string sn) := A1.cell 0
        have p2 : wc.cell? ⟨cb, 2, none⟩ = some (.pointer np) := A1.cell 2
        by_cases hk0 : kindAt is si = 0
        · have hd : decide (¬ kindAt is si = 0) = false := by simp [hk0]
          rw [hd]
          have HE : Hid (nodeI is bs (tellI is bs n) path (sn, si) = []) := by
            show nodeI is bs (tellI is bs n) path (sn, si) = []
            unfold nodeI
            rw [if_pos hk0]
          clear hd A1 A2 A3 A4
          go_wp2
          go_roundg (l.length - (q + 1))
          case measure => omega
          case rel =>
            refine ⟨q + 1, by omega, HNP.out.symm, hide ?_⟩
            rw [HFS.out, HE.out, List.append_nil, HCUR.out]
            exact HT2.out
        have hd : decide (¬ kindAt is si = 0) = true := by simp [hk0]
        rw [hd]
        obtain ⟨j, rfl⟩ : ∃ j : Nat, si = (j : Int) + 1 := by
          cases hb : inB si 1 is.length with
          | false => exact absurd (kindAt_out hb) hk0
          | true => have := inB_true hb; exact ⟨(si - 1).toNat, by omega⟩
        have hj : j < is.length := by
          cases hb : inB ((j : Int) + 1) 1 is.length with
          | false => exact absurd (kindAt_out hb) hk0
          | true => have := inB_true hb; omega
        have hps : path.size ≤ 28 := by have := HP.out; omega
        have HE : Hid (nodeI is bs (tellI is bs n) path (sn, (j : Int) + 1) = (joinP path sn, kindAt is ((j : Int) + 1) == 2, (textsAt is bs ((j : Int) + 1)).1, (textsAt is bs ((j : Int) + 1)).2) :: tellI is bs n ((j : Int) + 1) (joinP path sn)) := by
          show nodeI is bs (tellI is bs n) path (sn, (j : Int) + 1) = _
          unfold nodeI
          rw [if_neg hk0]
        have CA := hide (fun W hd => nodeAt_any j (joinP path sn) (.slice a1 xs.length c1) (.slice a2 ys.length c2) (.slice a3 is.length c3) (.slice a4 bs.length c4) xs ys is bs W hd HRD.out hj)
        obtain ⟨tx, htx⟩ : ∃ X, textsAt is bs ((j : Int) + 1) = X := ⟨_, rfl⟩
        obtain ⟨kb, hkb⟩ : ∃ X, (kindAt is ((j : Int) + 1) == 2) = X := ⟨_, rfl⟩
        rw [htx, hkb] at HE CA
        obtain ⟨tx1, tx2⟩ := tx
        clear hd htx hkb hk0 A1 A2 A3 A4
        obtain ⟨w2, hw2⟩ : ∃ w2, w2 = wc := ⟨_, rfl⟩
        subst hw2
        go_upto_region 5 with fail
        obtain ⟨lv, hlv, hnd⟩ := HT2.out.l
        obtain ⟨la, lc, rfl⟩ := hnd.form
        have HLV := hide (And.intro hlv hnd)
        clear hlv hnd p0 p2
        have HW : Hid (∀ W, Below w2.heap.size w2 W → AtC W lk 30 #[.slice la cur.length lc] ∧ NdO W w1.heap.size (.slice la cur.length lc) cur ∧ AtC W cb 58 #[.string sn, .int .i64 ((j : Int) + 1), .pointer np, f q] ∧ AtC W dk 36 #[.slice a1 xs.length c1, .slice a2 ys.length c2, .slice a3 is.length c3, .slice a4 bs.length c4] ∧ DR W (.slice a1 xs.length c1) (.slice a2 ys.length c2) (.slice a3 is.length c3) (.slice a4 bs.length c4) xs ys is bs) := fun W b => by
          obtain ⟨B1, B2, B3, B4⟩ := HCB.out _ _ (HT2.out.below b)
          exact ⟨HLV.out.1.over b, HLV.out.2.below b, B1, B2, B4⟩
        go_cut [7, 8] from 13 to 45 (fun pv bv wx => pv = .pointer (some ⟨cb, 0, none⟩) ∧ bv = .string (joinP path sn) ∧ Tl w1 wx lk (cur ++ [(joinP path sn, kb, tx1, tx2)]))
        case first =>
          refine wp_region_frm (by kernel_rfl) [0, 1, 2, 3, 4, 5, 6, 7, 8] [9, 10] (fun i => match i with | 0 => .const [] (.slice la cur.length lc) | 1 => .const [] (.agg #[.slice a1 xs.length c1, .slice a2 ys.length c2, .slice a3 is.length c3, .slice a4 bs.length c4]) | 2 => .const [] (.pointer (some ⟨cb, 0, none⟩)) | 3 => .const [2] (.pointer (some ⟨cb, 0, none⟩)) | 4 => .const [3] (.pointer (some ⟨cb, 1, none⟩)) | 5 => .const [4] (.int .i64 ((j : Int) + 1)) | 6 => .const [] (.string (path ++ ⟨#[47]⟩ ++ sn)) | 7 => .const [1, 5, 6] (.agg #[.string (path ++ ⟨#[47]⟩ ++ sn), .bool kb, .string tx1, .string tx2]) | 8 => MkS1 7 61 #[.string (path ++ ⟨#[47]⟩ ++ sn), .bool kb, .string tx1, .string tx2] | _ => .triv) (fun x => ⟨#[Value.pointer (some { block := bk, off := 0 }), Value.string path, Value.pointer (some { block := dk, off := 0 }), Value.pointer (some { block := lk, off := 0 }), Value.pointer (some { block := gq, off := 0 }), undef, undef, Value.pointer (some { block := cb, off := 0 }), Value.string (path ++ { data := #[47] } ++ sn), Value.pointer (some { block := bk, off := 0 }), Value.pointer (some { block := bk, off := 0 }), Value.pointer (some { block := bk, off := 3 }), Value.pointer lp, u13, u14, u15, u16, u17, u18, u19, u20, u21, u22, u23, Value.bool true, Value.string path, Value.string (path ++ { data := #[47] }), Value.pointer (some { block := cb, off := 0 }), Value.pointer (some { block := cb, off := 0 }), Value.pointer (some { block := cb, off := 0 }), Value.string sn, Value.string (path ++ { data := #[47] } ++ sn), x 0, x 1, x 2, x 3, x 4, x 5, x 6, x 7, x 8, u41, u42, u43, u44, u45], []⟩) (fun i => match i with | 0 => u32 | 1 => u33 | 2 => u34 | 3 => u35 | 4 => u36 | 5 => u37 | 6 => u38 | 7 => u39 | 8 => u40 | _ => undef) rfl (by kernel_rfl) (by kernel_rfl) (by kernel_rfl) rfl ?_ ?_
          · intro jo hj so x iw W hd hp K hK
            simp only [List.mem_cons, List.not_mem_nil, or_false] at hj
            rcases hj with rfl | rfl | rfl | rfl | rfl | rfl | rfl | rfl | rfl
            · refine wpOp_step (o := _) rfl fun K' hK' => ?_
              have HK : Hid (∀ v W', Below W.heap.size W W' → ((Mk.const [] (.slice la cur.length lc) : Mk)).P W.heap.size W'.heap.size W' v (upd x 0 v) → K' ⟨#[Value.pointer (some { block := bk, off := 0 }), Value.string path, Value.pointer (some { block := dk, off := 0 }), Value.pointer (some { block := lk, off := 0 }), Value.pointer (some { block := gq, off := 0 }), undef, undef, Value.pointer (some { block := cb, off := 0 }), Value.string (path ++ { data := #[47] } ++ sn), Value.pointer (some { block := bk, off := 0 }), Value.pointer (some { block := bk, off := 0 }), Value.pointer (some { block := bk, off := 3 }), Value.pointer lp, u13, u14, u15, u16, u17, u18, u19, u20, u21, u22, u23, Value.bool true, Value.string path, Value.string (path ++ { data := #[47] }), Value.pointer (some { block := cb, off := 0 }), Value.pointer (some { block := cb, off := 0 }), Value.pointer (some { block := cb, off := 0 }), Value.string sn, Value.string (path ++ { data := #[47] } ++ sn), v, x 1, x 2, x 3, x 4, x 5, x 6, x 7, x 8, u41, u42, u43, u44, u45], []⟩ W') := fun v W' h1 h2 => hK' _ _ (hK v W' h1 h2)
              have bw := of_drew hp.bel
              have qa := (HW.out W bw).1
              have k0 : W.cell? ⟨lk, 0, none⟩ = some (.slice la cur.length lc) := qa.cell 0
              clear bw qa
              clear hK hK' hp hd
              go_simp
              exact HK.out _ _ (Below.refl _ _) rfl
            · refine wpOp_step (o := _) rfl fun K' hK' => ?_
              have HK : Hid (∀ v W', Below W.heap.size W W' → ((Mk.const [] (.agg #[.slice a1 xs.length c1, .slice a2 ys.length c2, .slice a3 is.length c3, .slice a4 bs.length c4]) : Mk)).P W.heap.size W'.heap.size W' v (upd x 1 v) → K' ⟨#[Value.pointer (some { block := bk, off := 0 }), Value.string path, Value.pointer (some { block := dk, off := 0 }), Value.pointer (some { block := lk, off := 0 }), Value.pointer (some { block := gq, off := 0 }), undef, undef, Value.pointer (some { block := cb, off := 0 }), Value.string (path ++ { data := #[47] } ++ sn), Value.pointer (some { block := bk, off := 0 }), Value.pointer (some { block := bk, off := 0 }), Value.pointer (some { block := bk, off := 3 }), Value.pointer lp, u13, u14, u15, u16, u17, u18, u19, u20, u21, u22, u23, Value.bool true, Value.string path, Value.string (path ++ { data := #[47] }), Value.pointer (some { block := cb, off := 0 }), Value.pointer (some { block := cb, off := 0 }), Value.pointer (some { block := cb, off := 0 }), Value.string sn, Value.string (path ++ { data := #[47] } ++ sn), x 0, v, x 2, x 3, x 4, x 5, x 6, x 7, x 8, u41, u42, u43, u44, u45], []⟩ W') := fun v W' h1 h2 => hK' _ _ (hK v W' h1 h2)
              have bw := of_drew hp.bel
              have qa := (HW.out W bw).2.2.2.1
              have k0 : W.cell? ⟨dk, 0, none⟩ = some (.slice a1 xs.length c1) := qa.cell 0
              have k1 : W.cell? ⟨dk, 1, none⟩ = some (.slice a2 ys.length c2) := qa.cell 1
              have k2 : W.cell? ⟨dk, 2, none⟩ = some (.slice a3 is.length c3) := qa.cell 2
              have k3 : W.cell? ⟨dk, 3, none⟩ = some (.slice a4 bs.length c4) := qa.cell 3
              clear bw qa
              clear hK hK' hp hd
              go_simp
              exact HK.out _ _ (Below.refl _ _) rfl
            · refine wpOp_step (o := _) rfl fun K' hK' => ?_
              have HK : Hid (∀ v W', Below W.heap.size W W' → ((Mk.const [] (.pointer (some ⟨cb, 0, none⟩)) : Mk)).P W.heap.size W'.heap.size W' v (upd x 2 v) → K' ⟨#[Value.pointer (some { block := bk, off := 0 }), Value.string path, Value.pointer (some { block := dk, off := 0 }), Value.pointer (some { block := lk, off := 0 }), Value.pointer (some { block := gq, off := 0 }), undef, undef, Value.pointer (some { block := cb, off := 0 }), Value.string (path ++ { data := #[47] } ++ sn), Value.pointer (some { block := bk, off := 0 }), Value.pointer (some { block := bk, off := 0 }), Value.pointer (some { block := bk, off := 3 }), Value.pointer lp, u13, u14, u15, u16, u17, u18, u19, u20, u21, u22, u23, Value.bool true, Value.string path, Value.string (path ++ { data := #[47] }), Value.pointer (some { block := cb, off := 0 }), Value.pointer (some { block := cb, off := 0 }), Value.pointer (some { block := cb, off := 0 }), Value.string sn, Value.string (path ++ { data := #[47] } ++ sn), x 0, x 1, v, x 3, x 4, x 5, x 6, x 7, x 8, u41, u42, u43, u44, u45], []⟩ W') := fun v W' h1 h2 => hK' _ _ (hK v W' h1 h2)
              clear hK hK' hp hd
              go_simp
              exact HK.out _ _ (Below.refl _ _) rfl
            · refine wpOp_step (o := _) rfl fun K' hK' => ?_
              have HK : Hid (∀ v W', Below W.heap.size W W' → ((Mk.const [2] (.pointer (some ⟨cb, 0, none⟩)) : Mk)).P W.heap.size W'.heap.size W' v (upd x 3 v) → K' ⟨#[Value.pointer (some { block := bk, off := 0 }), Value.string path, Value.pointer (some { block := dk, off := 0 }), Value.pointer (some { block := lk, off := 0 }), Value.pointer (some { block := gq, off := 0 }), undef, undef, Value.pointer (some { block := cb, off := 0 }), Value.string (path ++ { data := #[47] } ++ sn), Value.pointer (some { block := bk, off := 0 }), Value.pointer (some { block := bk, off := 0 }), Value.pointer (some { block := bk, off := 3 }), Value.pointer lp, u13, u14, u15, u16, u17, u18, u19, u20, u21, u22, u23, Value.bool true, Value.string path, Value.string (path ++ { data := #[47] }), Value.pointer (some { block := cb, off := 0 }), Value.pointer (some { block := cb, off := 0 }), Value.pointer (some { block := cb, off := 0 }), Value.string sn, Value.string (path ++ { data := #[47] } ++ sn), x 0, x 1, x 2, v, x 4, x 5, x 6, x 7, x 8, u41, u42, u43, u44, u45], []⟩ W') := fun v W' h1 h2 => hK' _ _ (hK v W' h1 h2)
              have e2 : x 2 = .pointer (some ⟨cb, 0, none⟩) := hp.post 2 (hd 2 (show 2 ∈ [2] from by decide))
              clear hK hK' hp hd
              simp only [e2] at HK ⊢
              go_simp
              exact HK.out _ _ (Below.refl _ _) rfl
            · refine wpOp_step (o := _) rfl fun K' hK' => ?_
              have HK : Hid (∀ v W', Below W.heap.size W W' → ((Mk.const [3] (.pointer (some ⟨cb, 1, none⟩)) : Mk)).P W.heap.size W'.heap.size W' v (upd x 4 v) → K' ⟨#[Value.pointer (some { block := bk, off := 0 }), Value.string path, Value.pointer (some { block := dk, off := 0 }), Value.pointer (some { block := lk, off := 0 }), Value.pointer (some { block := gq, off := 0 }), undef, undef, Value.pointer (some { block := cb, off := 0 }), Value.string (path ++ { data := #[47] } ++ sn), Value.pointer (some { block := bk, off := 0 }), Value.pointer (some { block := bk, off := 0 }), Value.pointer (some { block := bk, off := 3 }), Value.pointer lp, u13, u14, u15, u16, u17, u18, u19, u20, u21, u22, u23, Value.bool true, Value.string path, Value.string (path ++ { data := #[47] }), Value.pointer (some { block := cb, off := 0 }), Value.pointer (some { block := cb, off := 0 }), Value.pointer (some { block := cb, off := 0 }), Value.string sn, Value.string (path ++ { data := #[47] } ++ sn), x 0, x 1, x 2, x 3, v, x 5, x 6, x 7, x 8, u41, u42, u43, u44, u45], []⟩ W') := fun v W' h1 h2 => hK' _ _ (hK v W' h1 h2)
              have e3 : x 3 = .pointer (some ⟨cb, 0, none⟩) := hp.post 3 (hd 3 (show 3 ∈ [3] from by decide))
              clear hK hK' hp hd
              simp only [e3] at HK ⊢
              go_simp
              exact HK.out _ _ (Below.refl _ _) rfl
            · refine wpOp_step (o := _) rfl fun K' hK' => ?_
              have HK : Hid (∀ v W', Below W.heap.size W W' → ((Mk.const [4] (.int .i64 ((j : Int) + 1)) : Mk)).P W.heap.size W'.heap.size W' v (upd x 5 v) → K' ⟨#[Value.pointer (some { block := bk, off := 0 }), Value.string path, Value.pointer (some { block := dk, off := 0 }), Value.pointer (some { block := lk, off := 0 }), Value.pointer (some { block := gq, off := 0 }), undef, undef, Value.pointer (some { block := cb, off := 0 }), Value.string (path ++ { data := #[47] } ++ sn), Value.pointer (some { block := bk, off := 0 }), Value.pointer (some { block := bk, off := 0 }), Value.pointer (some { block := bk, off := 3 }), Value.pointer lp, u13, u14, u15, u16, u17, u18, u19, u20, u21, u22, u23, Value.bool true, Value.string path, Value.string (path ++ { data := #[47] }), Value.pointer (some { block := cb, off := 0 }), Value.pointer (some { block := cb, off := 0 }), Value.pointer (some { block := cb, off := 0 }), Value.string sn, Value.string (path ++ { data := #[47] } ++ sn), x 0, x 1, x 2, x 3, x 4, v, x 6, x 7, x 8, u41, u42, u43, u44, u45], []⟩ W') := fun v W' h1 h2 => hK' _ _ (hK v W' h1 h2)
              have e4 : x 4 = .pointer (some ⟨cb, 1, none⟩) := hp.post 4 (hd 4 (show 4 ∈ [4] from by decide))
              have bw := of_drew hp.bel
              have qa := (HW.out W bw).2.2.1
              have k1 : W.cell? ⟨cb, 1, none⟩ = some (.int .i64 ((j : Int) + 1)) := qa.cell 1
              clear bw qa
              clear hK hK' hp hd
              simp only [e4] at HK ⊢
              go_simp
              exact HK.out _ _ (Below.refl _ _) rfl
            · refine wpOp_step (o := _) rfl fun K' hK' => ?_
              have HK : Hid (∀ v W', Below W.heap.size W W' → ((Mk.const [] (.string (path ++ ⟨#[47]⟩ ++ sn)) : Mk)).P W.heap.size W'.heap.size W' v (upd x 6 v) → K' ⟨#[Value.pointer (some { block := bk, off := 0 }), Value.string path, Value.pointer (some { block := dk, off := 0 }), Value.pointer (some { block := lk, off := 0 }), Value.pointer (some { block := gq, off := 0 }), undef, undef, Value.pointer (some { block := cb, off := 0 }), Value.string (path ++ { data := #[47] } ++ sn), Value.pointer (some { block := bk, off := 0 }), Value.pointer (some { block := bk, off := 0 }), Value.pointer (some { block := bk, off := 3 }), Value.pointer lp, u13, u14, u15, u16, u17, u18, u19, u20, u21, u22, u23, Value.bool true, Value.string path, Value.string (path ++ { data := #[47] }), Value.pointer (some { block := cb, off := 0 }), Value.pointer (some { block := cb, off := 0 }), Value.pointer (some { block := cb, off := 0 }), Value.string sn, Value.string (path ++ { data := #[47] } ++ sn), x 0, x 1, x 2, x 3, x 4, x 5, v, x 7, x 8, u41, u42, u43, u44, u45], []⟩ W') := fun v W' h1 h2 => hK' _ _ (hK v W' h1 h2)
              clear hK hK' hp hd
              go_simp
              exact HK.out _ _ (Below.refl _ _) rfl
            · refine wpOp_step (o := _) rfl fun K' hK' => ?_
              have HK : Hid (∀ v W', Below W.heap.size W W' → ((Mk.const [1, 5, 6] (.agg #[.string (path ++ ⟨#[47]⟩ ++ sn), .bool kb, .string tx1, .string tx2]) : Mk)).P W.heap.size W'.heap.size W' v (upd x 7 v) → K' ⟨#[Value.pointer (some { block := bk, off := 0 }), Value.string path, Value.pointer (some { block := dk, off := 0 }), Value.pointer (some { block := lk, off := 0 }), Value.pointer (some { block := gq, off := 0 }), undef, undef, Value.pointer (some { block := cb, off := 0 }), Value.string (path ++ { data := #[47] } ++ sn), Value.pointer (some { block := bk, off := 0 }), Value.pointer (some { block := bk, off := 0 }), Value.pointer (some { block := bk, off := 3 }), Value.pointer lp, u13, u14, u15, u16, u17, u18, u19, u20, u21, u22, u23, Value.bool true, Value.string path, Value.string (path ++ { data := #[47] }), Value.pointer (some { block := cb, off := 0 }), Value.pointer (some { block := cb, off := 0 }), Value.pointer (some { block := cb, off := 0 }), Value.string sn, Value.string (path ++ { data := #[47] } ++ sn), x 0, x 1, x 2, x 3, x 4, x 5, x 6, v, x 8, u41, u42, u43, u44, u45], []⟩ W') := fun v W' h1 h2 => hK' _ _ (hK v W' h1 h2)
              have e1 : x 1 = .agg #[.slice a1 xs.length c1, .slice a2 ys.length c2, .slice a3 is.length c3, .slice a4 bs.length c4] := hp.post 1 (hd 1 (show 1 ∈ [1, 5, 6] from by decide))
              have e5 : x 5 = .int .i64 ((j : Int) + 1) := hp.post 5 (hd 5 (show 5 ∈ [1, 5, 6] from by decide))
              have e6 : x 6 = .string (path ++ ⟨#[47]⟩ ++ sn) := hp.post 6 (hd 6 (show 6 ∈ [1, 5, 6] from by decide))
              have dr := (HW.out W (of_drew hp.bel)).2.2.2.2
              clear hK hK' hp hd
              simp only [e1, e5, e6] at HK ⊢
              clear e1 e5 e6
              go_simp
              refine (CA.out W dr).mono ?_
              rintro e w6 ⟨rfl, B6⟩
              go_simp
              exact HK.out _ _ B6 rfl
            · refine wpOp_step (o := _) rfl fun K' hK' => ?_
              have HK : Hid (∀ v W', Below W.heap.size W W' → (MkS1 7 61 #[.string (path ++ ⟨#[47]⟩ ++ sn), .bool kb, .string tx1, .string tx2]).P W.heap.size W'.heap.size W' v (upd x 8 v) → K' ⟨#[Value.pointer (some { block := bk, off := 0 }), Value.string path, Value.pointer (some { block := dk, off := 0 }), Value.pointer (some { block := lk, off := 0 }), Value.pointer (some { block := gq, off := 0 }), undef, undef, Value.pointer (some { block := cb, off := 0 }), Value.string (path ++ { data := #[47] } ++ sn), Value.pointer (some { block := bk, off := 0 }), Value.pointer (some { block := bk, off := 0 }), Value.pointer (some { block := bk, off := 3 }), Value.pointer lp, u13, u14, u15, u16, u17, u18, u19, u20, u21, u22, u23, Value.bool true, Value.string path, Value.string (path ++ { data := #[47] }), Value.pointer (some { block := cb, off := 0 }), Value.pointer (some { block := cb, off := 0 }), Value.pointer (some { block := cb, off := 0 }), Value.string sn, Value.string (path ++ { data := #[47] } ++ sn), x 0, x 1, x 2, x 3, x 4, x 5, x 6, x 7, v, u41, u42, u43, u44, u45], []⟩ W') := fun v W' h1 h2 => hK' _ _ (hK v W' h1 h2)
              have e7 : x 7 = .agg #[.string (path ++ ⟨#[47]⟩ ++ sn), .bool kb, .string tx1, .string tx2] := hp.post 7 (hd 7 (show 7 ∈ [7] from by decide))
              clear hK hK' hp hd
              simp only [e7] at HK ⊢
              clear e7
              go_simp
              exact HK.out _ _ ((Below.refl _ W).alloc (Nat.le_refl _) _) ⟨rfl, AtC.new W 61 _⟩
          · intro x iw W hp
            have e0 : x 0 = .slice la cur.length lc := hp.post 0 (by decide)
            have e1 : x 1 = .agg #[.slice a1 xs.length c1, .slice a2 ys.length c2, .slice a3 is.length c3, .slice a4 bs.length c4] := hp.post 1 (by decide)
            have e2 : x 2 = .pointer (some ⟨cb, 0, none⟩) := hp.post 2 (by decide)
            have e3 : x 3 = .pointer (some ⟨cb, 0, none⟩) := hp.post 3 (by decide)
            have e4 : x 4 = .pointer (some ⟨cb, 1, none⟩) := hp.post 4 (by decide)
            have e5 : x 5 = .int .i64 ((j : Int) + 1) := hp.post 5 (by decide)
            have e6 : x 6 = .string (path ++ ⟨#[47]⟩ ++ sn) := hp.post 6 (by decide)
            have e7 : x 7 = .agg #[.string (path ++ ⟨#[47]⟩ ++ sn), .bool kb, .string tx1, .string tx2] := hp.post 7 (by decide)
            obtain ⟨e8, A8⟩ := hp.post 8 (by decide)
            have bel := of_drew hp.bel
            have HWX := hide (HW.out W bel)
            have HG := hide (HT2.out.g.trans (Chg.of_below bel))
            have HA8 : Hid (AtC W (iw 8).1 61 (ndRow (path ++ ⟨#[47]⟩ ++ sn, kb, tx1, tx2)).toArray) := A8
            have HSZ : Hid (w1.heap.size ≤ W.heap.size) := HG.out.size
            have HTL : Hid (cur.length ≤ 100000000000) := by have := HCL.out; show _ ≤ _; omega
            clear hp bel A8
            simp only [e0, e1, e2, e3, e4, e5, e6, e7, e8]
            clear e0 e1 e2 e3 e4 e5 e6 e7 e8
            generalize (iw 8).1 = g8 at *
            simp only [List.filterMap_cons, List.filterMap_nil, List.getElem?_toArray, List.getElem?_cons_succ, List.getElem?_cons_zero]
            refine wpList_step fun K' hK' => ?_
            refine step_append_node _ rfl (.tmp 32) (.tmp 40) rfl w1.heap.size (.slice la cur.length lc) cur rfl HWX.out.2.1 HSZ.out g8 (path ++ ⟨#[47]⟩ ++ sn, kb, tx1, tx2) rfl HA8.out HTL.out ?_
            intro v9 w9 T9 G9 V9
            refine hK' _ _ ?_
            obtain ⟨A9, T10⟩ := Tl.app HG.out HWX.out.1 hlk HWX.out.2.1 T9 G9
            have k0 : w9.cell? ⟨lk, 0, none⟩ = some (.slice la cur.length lc) := A9.cell 0
            have f0 := A9.frozen 0
            obtain ⟨va, vc, hv9⟩ := T9.form
            obtain ⟨nl, hnl⟩ : ∃ n, (cur ++ [(path ++ ⟨#[47]⟩ ++ sn, kb, tx1, tx2)]).length = n := ⟨_, rfl⟩
            rw [hnl] at hv9
            subst hv9
            clear hnl
            have HT10 := hide T10
            clear A9 T10 T9 G9 V9 hK'
            go_wp2_with fail
            try rw [List.filterMap_nil]
            try go_wp2_with fail
            go_meet
            exact ⟨rfl, rfl, HT10.out⟩
        case rest =>
          obtain ⟨rfl, rfl, hT3⟩ := hcut
          have HT3 := hide hT3
          clear hT3 HW HLV HT2
          obtain ⟨A1, A2, A3, A4⟩ := HCB.out _ _ HT3.out
          have g0 : wc.cell? ⟨gq, 0, none⟩ = some (.func (.func 23) #[] #[.pointer (some ⟨dk, 0, none⟩), .pointer (some ⟨lk, 0, none⟩), .pointer (some ⟨gq, 0, none⟩)]) := A3.cell 0
          have HRL : Hid (ol ++ ((l.map (·.2)).take (q + 1)).flatMap (nodeI is bs (tellI is bs n) path) = (cur ++ [(joinP path sn, kb, tx1, tx2)]) ++ tellI is bs n ((j : Int) + 1) (joinP path sn)) := by
            show ol ++ ((l.map (·.2)).take (q + 1)).flatMap (nodeI is bs (tellI is bs n) path) = _
            rw [HFS.out, HE.out, ← List.append_assoc, HCUR.out, List.append_assoc]
            rfl
          have IH2 := hide (IH.out (D + 1) (by omega) cb sn ((j : Int) + 1) np (f q) (joinP path sn) (cur ++ [(joinP path sn, kb, tx1, tx2)]) wc HGR.out.1 hcl HGR.out.2 (by rw [joinP_size]; have := HP.out; omega) (by have := HCL.out; simp; omega) HT3.out)
          rw [← HRL.out] at IH2
          clear A1 A2 A3 A4 HT3 CA HE
          go_wp2_with fail
          refine IH2.out.mono ?_
          rintro e w5 ⟨rfl, hT5⟩
          have HT5 := hide hT5
          obtain ⟨A1, -, -, -⟩ := HCB.out _ _ hT5
          have p2 : w5.cell? ⟨cb, 2, none⟩ = some (.pointer np) := A1.cell 2
          clear hT5 A1 IH2 g0
          go_wp2
          go_roundg (l.length - (q + 1))
          case measure => omega
          case rel => exact ⟨q + 1, by omega, HNP.out.symm, HT5.out⟩
end Go.Proofs.Ytljooldjcefkoaa
