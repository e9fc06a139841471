/- Texts of the proof, bundled: Ml, Md, Mp, Mh, Mn, Bg. -/
import Derived.Deep.RegionHeld3
import Derived.Test.YtggjillpfclajaaGreatU05
import Derived.Test.YtggjillpfclajaaGreatU09
/- laws.markInodeS, laws.markBlockS, laws.heldInodeS, laws.heldBlockS by their contracts. -/
namespace Go.Proofs.YtggjillpfclajaaGreat
open Go.RowKit Kit
/-- How many marks an inode, a block takes, and each of them marked. -/
def szI (x : Ino) : Nat := 2 + x.2.2.length
def mkI (k : Nat) (x : Ino) : Ino := ((k : Int), ((k + 1 : Nat) : Int), marksI (k + 2) x.2.2.length)
def szB (b : Blk) : Nat := 2 + b.2.1.length * 2
def mkB (k : Nat) (b : Blk) : Blk := (mk3 k, mkS (k + 1) b.2.1.length, mkT (k + 1 + b.2.1.length * 2))
set_option maxRecDepth 100000 in
set_option maxHeartbeats 1600000 in
theorem markInoS_any (v : Value) (ts : List V3) (xs : List Ino) (S : Nat → Prop) (k : Nat) (w : World) (h : GO KI w S v ts xs) (hk : cnt szI k xs ≤ 100000000000000) :
    Calls Tryz.prog 65 #[v, .int .i64 k] w fun e w' => ∃ ts', e = .returned (.int .i64 (cnt szI k xs : Nat)) ∧ GO KI w' S v ts' (mkL szI mkI k xs) ∧ Chg S w w' := by
  have hlen : k + xs.length ≤ cnt szI k xs := cnt_len (fun x => by simp [szI]; omega) k xs
  obtain ⟨a1, c1, rfl⟩ := h.form
  have HG := hide h
  have HK := hide hk
  clear h
  go_enter Tryz.func65, Tryz.ntmps65
  go_wp2
  go_loopw [1, 5] (fun x i wr => ∃ j : Nat, j ≤ xs.length ∧ i = .int .i64 j ∧ x = .int .i64 (cnt szI k (xs.take j) : Nat) ∧ Hid (∃ ts, GO KI wr S (.slice a1 xs.length c1) ts (mkd szI mkI k j xs)) ∧ Hid (Chg S w wr)) (fun _ i _ => xs.length - (intOf i).toNat)
  case atStart => exact ⟨0, Nat.zero_le _, rfl, rfl, ⟨ts, by rw [mkd_zero]; exact HG.out⟩, Chg.refl _ _⟩
  case round =>
    obtain ⟨j, hj, rfl, rfl, HT, HC⟩ := hrel
    by_cases hlt : j < xs.length
    · obtain ⟨ts2, hts⟩ := HT.out
      have hl2 : ts2.length = xs.length := by rw [hts.len, mkd_length]
      have hj2 : j < ts2.length := by omega
      obtain ⟨g, c2, e1, k1, k2, k3, k4, k5, -⟩ := hts.row.at j hj2
      simp only [Value.slice.injEq] at e1
      obtain ⟨rfl, -, rfl⟩ := e1
      have hin := hts.inn j hj2 (by rw [mkd_length]; exact hlt)
      rw [mkd_at k j xs hlt] at hin
      obtain ⟨i1, i2, i3⟩ := hin
      obtain ⟨p, hp⟩ : ∃ p, ts2[j].2.2 = p := ⟨_, rfl⟩
      obtain ⟨l, hl⟩ : ∃ l, xs[j].2.2 = l := ⟨_, rfl⟩
      rw [i1] at k1
      rw [i2] at k2
      rw [hp] at k3 i3
      rw [hl] at i3
      have hcle := cnt_le (sz := szI) k xs j hlt
      have hcs := cnt_succ (sz := szI) k xs j hlt
      have hset := mkd_set (sz := szI) (mk := mkI) k j xs hlt
      have hszj : szI xs[j] = 2 + l.length := by rw [← hl]; rfl
      rw [hszj] at hcle hcs
      have hmk : ∀ K, mkI K xs[j] = ((K : Int), ((K + 1 : Nat) : Int), marksI (K + 2) l.length) := fun K => by rw [← hl]; rfl
      rw [hmk] at hset
      obtain ⟨K, hK⟩ : ∃ K : Nat, cnt szI k (xs.take j) = K := ⟨_, rfl⟩
      rw [hK] at hcle hcs hset ⊢
      have hK1 : K + (2 + l.length) ≤ 100000000000000 := Nat.le_trans hcle hk
      have HM : Hid (∀ w1, ROwns w1 0 3 p (ic (marksI (K + 2) l.length)) → ((wr.setCell ⟨g, j * 3, none⟩ (.int .i64 (K : Int))).setCell ⟨g, j * 3 + 1, none⟩ (.int .i64 ((K : Int) + 1))).grownBy w1 p.ownBlock → (∃ ts, GO KI w1 S (.slice (some ⟨g, 0, none⟩) xs.length c1) ts (mkd szI mkI k (j + 1) xs)) ∧ Chg S w w1) := fun w1 hr hg => by
        have := hts.markI rfl j hj2 (K : Int) ((K + 1 : Nat) : Int) (marksI (K + 2) l.length) (by rw [hp]; exact hr) (by rw [hp]; exact hg)
        rw [hset] at this
        exact ⟨⟨_, this.1⟩, HC.out.trans this.2⟩
      have HO : Hid (ROwns ((wr.setCell ⟨g, j * 3, none⟩ (.int .i64 (K : Int))).setCell ⟨g, j * 3 + 1, none⟩ (.int .i64 ((K : Int) + 1))) 0 3 p (ic l)) := i3.of_heap fun m hm => by
        have hne : m ≠ g := fun e => hts.out j hj2 m (by rw [show KI.p ts2[j] = ts2[j].2.2 from rfl, hp]; exact hm) (by rw [e]; rfl)
        exact (heap_setCell_other _ ⟨g, j * 3 + 1, none⟩ m _ (by simpa using hne)).trans (heap_setCell_other _ ⟨g, j * 3, none⟩ m _ (by simpa using hne))
      have HCS := hide hcs
      have f0 := k4 (j * 3)
      have f1 := k4 (j * 3 + 1)
      have j0 : (0 : Int) ≤ (j : Int) := by omega
      have j1 : (j : Int) < (xs.length : Int) := by omega
      clear hts HT hp hl hcle hset hszj hmk hK i1 i2 i3 hcs k4 hl2 hj2
      go_wp2_with (go_at_call 51; refine (markI_any p l 0 (K + 2) _ HO.out (by omega) (by omega)).mono ?_; rintro e w1 ⟨rfl, R1, G1⟩; have H1 := hide (HM.out w1 R1 G1); clear R1 G1)
      go_roundw
      case rel => exact ⟨j + 1, by omega, by go_num, by rw [HCS.out]; go_num, H1.out.1, H1.out.2⟩
      case measure => simp [intOf]; omega
    · have hjl : j = xs.length := by omega
      have HJ := hide hjl
      clear hjl
      go_wp2
      go_ret
      obtain ⟨ts2, hts⟩ := HT.out
      rw [HJ.out, mkd_all] at hts
      exact ⟨ts2, by rw [HJ.out, cnt_all]; rfl, hts, HC.out⟩
set_option maxRecDepth 100000 in
set_option maxHeartbeats 1600000 in
theorem markBlkS_any (v : Value) (ts : List V3) (xs : List Blk) (S : Nat → Prop) (k : Nat) (w : World) (h : GO KB w S v ts xs) (hk0 : 1 ≤ k) (hk : cnt szB k xs ≤ 100000000000000) :
    Calls Tryz.prog 66 #[v, .int .i64 k] w fun e w' => ∃ ts', e = .returned (.int .i64 (cnt szB k xs : Nat)) ∧ GO KB w' S v ts' (mkL szB mkB k xs) ∧ Chg S w w' := by
  have hlen : k + xs.length ≤ cnt szB k xs := cnt_len (fun x => by simp [szB]; omega) k xs
  obtain ⟨a1, c1, rfl⟩ := h.form
  have HG := hide h
  have HK := hide hk
  clear h
  go_enter Tryz.func66, Tryz.ntmps66
  go_wp2
  go_loopw [1, 5] (fun x i wr => ∃ j : Nat, j ≤ xs.length ∧ i = .int .i64 j ∧ x = .int .i64 (cnt szB k (xs.take j) : Nat) ∧ Hid (∃ ts, GO KB wr S (.slice a1 xs.length c1) ts (mkd szB mkB k j xs)) ∧ Hid (Chg S w wr)) (fun _ i _ => xs.length - (intOf i).toNat)
  case atStart => exact ⟨0, Nat.zero_le _, rfl, rfl, ⟨ts, by rw [mkd_zero]; exact HG.out⟩, Chg.refl _ _⟩
  case round =>
    obtain ⟨j, hj, rfl, rfl, HT, HC⟩ := hrel
    by_cases hlt : j < xs.length
    · obtain ⟨ts2, hts⟩ := HT.out
      have hl2 : ts2.length = xs.length := by rw [hts.len, mkd_length]
      have hj2 : j < ts2.length := by omega
      obtain ⟨g, c2, e1, k1, k2, k3, k4, k5, -⟩ := hts.row.at j hj2
      simp only [Value.slice.injEq] at e1
      obtain ⟨rfl, -, rfl⟩ := e1
      have hin := hts.inn j hj2 (by rw [mkd_length]; exact hlt)
      rw [mkd_at k j xs hlt] at hin
      obtain ⟨i1, i2, i3⟩ := hin
      obtain ⟨p, hp⟩ : ∃ p, ts2[j].2.1 = p := ⟨_, rfl⟩
      obtain ⟨l, hl⟩ : ∃ l, xs[j].2.1 = l := ⟨_, rfl⟩
      obtain ⟨t0, ht0⟩ : ∃ t, xs[j].2.2 = t := ⟨_, rfl⟩
      rw [i1] at k1
      rw [i3, ht0] at k3
      rw [hp] at k2 i2
      rw [hl] at i2
      have hcle := cnt_le (sz := szB) k xs j hlt
      have hcs := cnt_succ (sz := szB) k xs j hlt
      have hset := mkd_set (sz := szB) (mk := mkB) k j xs hlt
      have hszj : szB xs[j] = 2 + l.length * 2 := by rw [← hl]; rfl
      rw [hszj] at hcle hcs
      have hmk : ∀ K, mkB K xs[j] = (mk3 K, mkS (K + 1) l.length, mkT (K + 1 + l.length * 2)) := fun K => by rw [← hl]; rfl
      rw [hmk] at hset
      have hK2 := cnt_ge (sz := szB) k (xs.take j)
      obtain ⟨K, hK⟩ : ∃ K : Nat, cnt szB k (xs.take j) = K := ⟨_, rfl⟩
      rw [hK] at hcle hcs hset hK2 ⊢
      have hK1 : K + (2 + l.length * 2) ≤ 100000000000000 := Nat.le_trans hcle hk
      have HM : Hid (∀ w1 w2, SOwns w1 0 132 p (mkS (K + 1) l.length) → (wr.setCell ⟨g, j * 3, none⟩ (.bool ((K : Int) % 3 == 0))).grownBy w1 p.ownBlock → Below w1.heap.size w1 w2 → (∃ ts, GO KB (w2.setCell ⟨g, j * 3 + 2, none⟩ (.string (mkT (K + 1 + l.length * 2)))) S (.slice (some ⟨g, 0, none⟩) xs.length c1) ts (mkd szB mkB k (j + 1) xs)) ∧ Chg S w (w2.setCell ⟨g, j * 3 + 2, none⟩ (.string (mkT (K + 1 + l.length * 2))))) := fun w1 w2 hr hg hb => by
        rw [← mk3_int] at hg
        have := hts.markB rfl j hj2 (mk3 K) (mkT (K + 1 + l.length * 2)) (mkS (K + 1) l.length) (by rw [hp]; exact hr) (by rw [hp]; exact hg) hb
        rw [hset] at this
        exact ⟨⟨_, this.1⟩, HC.out.trans this.2⟩
      have hne : ∀ m, p.ownBlock = some m → m ≠ g := fun m hm e => hts.out j hj2 m (by rw [show KB.p ts2[j] = ts2[j].2.1 from rfl, hp]; exact hm) (by rw [e]; rfl)
      have HO : Hid (SOwns (wr.setCell ⟨g, j * 3, none⟩ (.bool ((K : Int) % 3 == 0))) 0 132 p l) := i2.of_heap fun m hm => heap_setCell_other _ ⟨g, j * 3, none⟩ m _ (by simpa using hne m hm)
      have hfr : wr.frozen? ⟨g, j * 3 + 2, none⟩ = false := k4 _
      have HX : Hid (∀ w1 w2, (wr.setCell ⟨g, j * 3, none⟩ (.bool ((K : Int) % 3 == 0))).grownBy w1 p.ownBlock → Below w1.heap.size w1 w2 → w2.cell? ⟨g, j * 3 + 2, none⟩ = some (.string t0) ∧ w2.frozen? ⟨g, j * 3 + 2, none⟩ = false) := fun w1 w2 hg hb => by
        have hgw : g < wr.heap.size := hts.row.lt g rfl
        have hsz1 : wr.heap.size ≤ w1.heap.size := by have := hg.size; simpa using this
        have eh : w2.heap[g]? = (wr.setCell ⟨g, j * 3, none⟩ (.bool ((K : Int) % 3 == 0))).heap[g]? := (hb.block g (by omega)).trans (hg.block g (by simpa using hgw) (fun e => hne g e.symm rfl))
        have hrow0 : TOwns wr KB.T (.slice (some ⟨g, 0, none⟩) ts2.length c1) ts2 := by rw [hl2]; exact hts.row
        have hrow := hrow0.set0 j hj2 (.bool ((K : Int) % 3 == 0))
        have hrow2 : TOwns w2 KB.T (.slice (some ⟨g, 0, none⟩) ts2.length c1) (ts2.set j (.bool ((K : Int) % 3 == 0), ts2[j].2.1, ts2[j].2.2)) := hrow.of_heap fun m hm => by
          have e : m = g := by simpa [Value.ownBlock] using hm.symm
          subst e
          exact eh
        obtain ⟨g', c', e', q1, q2, q3, q4, -⟩ := hrow2.at j (by simpa using hj2)
        simp only [Value.slice.injEq, Option.some.injEq, Addr.mk.injEq] at e'
        obtain ⟨⟨rfl, -⟩, -⟩ := e'
        simp only [List.getElem_set_self] at q3
        rw [i3, ht0] at q3
        exact ⟨q3, q4 _⟩
      have HCS := hide hcs
      have f0 := k4 (j * 3)
      have j0 : (0 : Int) ≤ (j : Int) := by omega
      have j1 : (j : Int) < (xs.length : Int) := by omega
      clear hts HT hp hl hcle hset hszj hmk hK i1 i2 i3 hcs k4 hl2 hj2 hne k3 hfr
      go_wp2_with (first | (go_at_call 85; refine (markS_any p l 0 (K + 1) _ HO.out (by omega) (by omega) (by omega)).mono ?_; rintro e w1 ⟨rfl, R1, G1⟩; have HR1 := hide R1; have HG1 := hide G1; clear R1 G1) | (go_at_call 67; refine (markText_any (K + 1 + l.length * 2) _ (by omega) (by omega)).mono ?_; rintro e w2 ⟨rfl, B2⟩; have H1 := hide (HM.out _ w2 HR1.out HG1.out B2); obtain ⟨y1, y2⟩ := HX.out _ w2 HG1.out B2; clear B2))
      go_roundw
      case rel => exact ⟨j + 1, by omega, by go_num, by rw [HCS.out]; go_num, H1.out.1, H1.out.2⟩
      case measure => simp [intOf]; omega
    · have hjl : j = xs.length := by omega
      have HJ := hide hjl
      clear hjl
      go_wp2
      go_ret
      obtain ⟨ts2, hts⟩ := HT.out
      rw [HJ.out, mkd_all] at hts
      exact ⟨ts2, by rw [HJ.out, cnt_all]; rfl, hts, HC.out⟩
set_option maxRecDepth 100000 in
set_option maxHeartbeats 1600000 in
theorem heldInoS_any (v : Value) (ts : List V3) (xs : List Ino) (S : Nat → Prop) (k : Nat) (w : World) (h : GO KI w S v ts (mkL szI mkI k xs)) (hk : cnt szI k xs ≤ 100000000000000) :
    Calls Tryz.prog 69 #[v, .int .i64 k] w fun e w' => e = .returned (.int .i64 (cnt szI k xs : Nat)) ∧ Below w.heap.size w w' := by
  have hlen : k + xs.length ≤ cnt szI k xs := cnt_len (fun x => by simp [szI]; omega) k xs
  obtain ⟨a1, c1, rfl⟩ := h.form
  rw [mkL_length] at *
  have HG := hide h
  have HK := hide hk
  clear h
  go_enter Tryz.func69, Tryz.ntmps69
  go_wp2
  go_loopw [1, 5] (fun x i wr => ∃ j : Nat, j ≤ xs.length ∧ i = .int .i64 j ∧ x = .int .i64 (cnt szI k (xs.take j) : Nat) ∧ Hid (Below w.heap.size w wr)) (fun _ i _ => xs.length - (intOf i).toNat)
  case atStart => exact ⟨0, Nat.zero_le _, rfl, rfl, Below.refl _ _⟩
  case round =>
    obtain ⟨j, hj, rfl, rfl, HC⟩ := hrel
    by_cases hlt : j < xs.length
    · have hts := HG.out.below HC.out (Nat.le_refl _)
      have hl2 : ts.length = xs.length := by rw [hts.len, mkL_length]
      have hj2 : j < ts.length := by omega
      obtain ⟨g, c2, e1, k1, k2, k3, k4, k5, -⟩ := hts.row.at j hj2
      simp only [Value.slice.injEq] at e1
      obtain ⟨rfl, -, rfl⟩ := e1
      have hin := hts.inn j hj2 (by rw [mkL_length]; exact hlt)
      rw [mkL_at k j xs hlt] at hin
      obtain ⟨i1, i2, i3⟩ := hin
      obtain ⟨p, hp⟩ : ∃ p, ts[j].2.2 = p := ⟨_, rfl⟩
      rw [i1] at k1
      rw [i2] at k2
      rw [hp] at k3 i3
      have hcle := cnt_le (sz := szI) k xs j hlt
      have hcs := cnt_succ (sz := szI) k xs j hlt
      obtain ⟨n, hn⟩ : ∃ n, xs[j].2.2.length = n := ⟨_, rfl⟩
      have hszj : szI xs[j] = 2 + n := by rw [← hn]; rfl
      rw [hszj] at hcle hcs
      obtain ⟨K, hK⟩ : ∃ K : Nat, cnt szI k (xs.take j) = K := ⟨_, rfl⟩
      rw [hK] at hcle hcs k1 k2 i3 ⊢
      have k1' : wr.cell? ⟨g, j * 3, none⟩ = some (.int .i64 (K : Int)) := k1
      have k2' : wr.cell? ⟨g, j * 3 + 1, none⟩ = some (.int .i64 ((K : Int) + 1)) := k2
      have i3' : ROwns wr 0 3 p (ic (marksI (K + 2) n)) := by rw [← hn]; exact i3
      have hK1 : K + (2 + n) ≤ 100000000000000 := Nat.le_trans hcle hk
      have HO := hide i3'
      have HCS := hide hcs
      have j0 : (0 : Int) ≤ (j : Int) := by omega
      have j1 : (j : Int) < (xs.length : Int) := by omega
      clear hts hp hcle hszj hK i1 i2 i3 i3' hcs k4 hl2 hj2 k1 k2 hn
      go_wp2_with (go_at_call 71; refine (heldI_any p n 0 (K + 2) _ HO.out (by omega) (by omega)).mono ?_; rintro e w1 ⟨rfl, B1⟩; have H1 := hide (HC.out.trans (B1.mono HC.out.size)); clear B1; have hK3 : ¬ (((K + 2 + n : Nat) : Int) < 0) := by omega)
      go_roundw
      case rel => exact ⟨j + 1, by omega, by go_num, by rw [HCS.out]; go_num, H1.out⟩
      case measure => simp [intOf]; omega
    · have hjl : j = xs.length := by omega
      have HJ := hide hjl
      clear hjl
      go_wp2
      go_ret
      exact ⟨by rw [HJ.out, cnt_all]; rfl, HC.out⟩
set_option maxRecDepth 100000 in
set_option maxHeartbeats 1600000 in
theorem heldBlkS_any (v : Value) (ts : List V3) (xs : List Blk) (S : Nat → Prop) (k : Nat) (w : World) (h : GO KB w S v ts (mkL szB mkB k xs)) (hk0 : 1 ≤ k) (hk : cnt szB k xs ≤ 100000000000000) :
    Calls Tryz.prog 70 #[v, .int .i64 k] w fun e w' => e = .returned (.int .i64 (cnt szB k xs : Nat)) ∧ Below w.heap.size w w' := by
  have hlen : k + xs.length ≤ cnt szB k xs := cnt_len (fun x => by simp [szB]; omega) k xs
  obtain ⟨a1, c1, rfl⟩ := h.form
  rw [mkL_length] at *
  have HG := hide h
  have HK := hide hk
  clear h
  go_enter Tryz.func70, Tryz.ntmps70
  go_wp2
  go_loopw [1, 5] (fun x i wr => ∃ j : Nat, j ≤ xs.length ∧ i = .int .i64 j ∧ x = .int .i64 (cnt szB k (xs.take j) : Nat) ∧ Hid (Below w.heap.size w wr)) (fun _ i _ => xs.length - (intOf i).toNat)
  case atStart => exact ⟨0, Nat.zero_le _, rfl, rfl, Below.refl _ _⟩
  case round =>
    obtain ⟨j, hj, rfl, rfl, HC⟩ := hrel
    by_cases hlt : j < xs.length
    · have hts := HG.out.below HC.out (Nat.le_refl _)
      have hl2 : ts.length = xs.length := by rw [hts.len, mkL_length]
      have hj2 : j < ts.length := by omega
      obtain ⟨g, c2, e1, k1, k2, k3, k4, k5, -⟩ := hts.row.at j hj2
      simp only [Value.slice.injEq] at e1
      obtain ⟨rfl, -, rfl⟩ := e1
      have hin := hts.inn j hj2 (by rw [mkL_length]; exact hlt)
      rw [mkL_at k j xs hlt] at hin
      obtain ⟨i1, i2, i3⟩ := hin
      obtain ⟨p, hp⟩ : ∃ p, ts[j].2.1 = p := ⟨_, rfl⟩
      rw [i1] at k1
      rw [i3] at k3
      rw [hp] at k2 i2
      have hcle := cnt_le (sz := szB) k xs j hlt
      have hcs := cnt_succ (sz := szB) k xs j hlt
      have hK2 := cnt_ge (sz := szB) k (xs.take j)
      obtain ⟨n, hn⟩ : ∃ n, xs[j].2.1.length = n := ⟨_, rfl⟩
      have hszj : szB xs[j] = 2 + n * 2 := by rw [← hn]; rfl
      rw [hszj] at hcle hcs
      obtain ⟨K, hK⟩ : ∃ K : Nat, cnt szB k (xs.take j) = K := ⟨_, rfl⟩
      rw [hK] at hcle hcs k1 k3 i2 hK2 ⊢
      have k1' : wr.cell? ⟨g, j * 3, none⟩ = some (.bool ((K : Int) % 3 == 0)) := by rw [← mk3_int]; exact k1
      have k3' : wr.cell? ⟨g, j * 3 + 2, none⟩ = some (.string (mkT (K + 1 + n * 2))) := by rw [← hn]; exact k3
      have i2' : SOwns wr 0 132 p (mkS (K + 1) n) := by rw [← hn]; exact i2
      have hK1 : K + (2 + n * 2) ≤ 100000000000000 := Nat.le_trans hcle hk
      have HO := hide i2'
      have HCS := hide hcs
      have HX : Hid (∀ w', Below wr.heap.size wr w' → w'.cell? ⟨g, j * 3 + 2, none⟩ = some (.string (mkT (K + 1 + n * 2)))) := fun w' hb => (hb.cell (p := ⟨g, j * 3 + 2, none⟩) k5).trans k3'
      have j0 : (0 : Int) ≤ (j : Int) := by omega
      have j1 : (j : Int) < (xs.length : Int) := by omega
      clear hts hp hcle hszj hK i1 i2 i3 i2' hcs k4 hl2 hj2 k1 k3 k3' hn
      go_wp2_with (go_at_call 86; refine (heldS_any p n 0 (K + 1) _ HO.out (by omega) (by omega) (by omega)).mono ?_; rintro e w1 ⟨rfl, B1⟩; have H1 := hide B1; clear B1; have hK3 : ¬ (((K + 1 + n * 2 : Nat) : Int) < 0) := by omega)
      have BB := H1.out.drew
      have y0 := HX.out _ H1.out
      have tt : ((mkT (K + 1 + n * 2)).toList == (mkT (K + 1 + n * 2)).toList) = true := by simp
      go_region_held3 (fun w' => w'.cell? ⟨g, j * 3 + 2, none⟩ = some (.string (mkT (K + 1 + n * 2)))) (first | exact HX.out _ BB | exact HX.out _ (BB.trans (B6.mono BB.size))) ((go_at_call 67; refine (markText_any (K + 1 + n * 2) _ (by omega) (by omega)).mono ?_; rintro e w6 ⟨rfl, B6⟩))
      have H6 := hide (HC.out.trans ((BB.trans (B6.mono BB.size)).mono HC.out.size))
      clear BB B6
      go_wp2
      go_roundw
      case rel => exact ⟨j + 1, by omega, by go_num, by rw [HCS.out]; go_num, H6.out⟩
      case measure => simp [intOf]; omega
    · have hjl : j = xs.length := by omega
      have HJ := hide hjl
      clear hjl
      go_wp2
      go_ret
      exact ⟨by rw [HJ.out, cnt_all]; rfl, HC.out⟩
end Go.Proofs.YtggjillpfclajaaGreat
/- Disks that are marked, and held against their marks: laws.markDisk, laws.heldDisk by their contracts. -/
namespace Go.Proofs.YtggjillpfclajaaGreat
open Go.RowKit Kit
/-- The number behind a marked disk. -/
def cntD (k : Nat) (xs ys : List Bool) (is : List Ino) (bs : List Blk) : Nat := cnt szB (cnt szI (k + xs.length + ys.length) is) bs
/-- A disk of memory of its own, all of whose parts are marked from k on. -/
def DM (w : World) (S : Nat → Prop) (u v iv bv : Value) (k : Nat) (xs ys : List Bool) (is : List Ino) (bs : List Blk) : Prop :=
  DO w S u v iv bv (marksB k xs.length) (marksB (k + xs.length) ys.length) (mkL szI mkI (k + xs.length + ys.length) is) (mkL szB mkB (cnt szI (k + xs.length + ys.length) is) bs)
set_option maxRecDepth 100000 in
set_option maxHeartbeats 1600000 in
theorem markDisk_any (u v iv bv : Value) (xs ys : List Bool) (is : List Ino) (bs : List Blk) (S : Nat → Prop) (k : Nat) (w : World) (h : DO w S u v iv bv xs ys is bs) (hk0 : 1 ≤ k) (hk : cntD k xs ys is bs ≤ 100000000000000) :
    Calls Tryz.prog 38 #[.agg #[u, v, iv, bv], .int .i64 k] w fun e w' => e = .returned (.int .i64 (cntD k xs ys is bs : Nat)) ∧ DM w' S u v iv bv k xs ys is bs ∧ Chg S w w' := by
  have HF := hide h.dr.form
  obtain ⟨S1, S2, S3, ti, tb, hT, hs1, hi, hb, d1, d2, hU⟩ := h
  have hc1 : cnt szI (k + xs.length + ys.length) is ≤ 100000000000000 := Nat.le_trans (cnt_ge _ _) hk
  have hc0 : k + xs.length + ys.length ≤ 100000000000000 := Nat.le_trans (cnt_ge _ _) hc1
  obtain ⟨K1, hK1⟩ : ∃ K, k + xs.length + ys.length = K := ⟨_, rfl⟩
  obtain ⟨K2, hK2⟩ : ∃ K, cnt szI K1 is = K := ⟨_, rfl⟩
  have hg1 : K1 ≤ K2 := by rw [← hK2]; exact cnt_ge _ _
  have hkb : cnt szB K2 bs ≤ 100000000000000 := by rw [← hK2, ← hK1]; exact hk
  have hCD : cntD k xs ys is bs = cnt szB K2 bs := by rw [cntD, hK1, hK2]
  have HDM : Hid (∀ w', DO w' S u v iv bv (marksB k xs.length) (marksB (k + xs.length) ys.length) (mkL szI mkI K1 is) (mkL szB mkB K2 bs) → DM w' S u v iv bv k xs ys is bs) := fun w' hd => by rw [DM, hK1, hK2]; exact hd
  rw [hK1] at hc1 hc0
  rw [hCD]
  have C1 := hide (fun W h => markN_any u v xs ys 0 k W h (by omega) (by omega) (by omega))
  rw [hK1] at C1
  have C2 := hide (fun W h => markInoS_any iv ti is (fun m => S2 m ∧ m < w.heap.size) K1 W h hc1)
  rw [hK2] at C2
  have C3 := hide (fun W h => markBlkS_any bv tb bs (fun m => S3 m ∧ m < w.heap.size) K2 W h (by omega) hkb)
  generalize cnt szB K2 bs = K3 at *
  have HT := hide hT
  have HI := hide hi.bound
  have HB := hide hb.bound
  have HS := hide (And.intro hs1 (And.intro d1 (And.intro d2 hU)))
  have h12 : ∀ m, (u.ownBlock = some m ∨ v.ownBlock = some m) → m < w.heap.size := fun m hm => hm.elim (fun e => (hT.a.lt m e).2) (fun e => (hT.b.lt m e).2)
  have HL := hide h12
  clear hT hi hb hs1 d1 d2 hU h12 hk hkb hCD hK1 hK2
  obtain ⟨a1, c1, a2, c2, a3, c3, a4, c4, rfl, rfl, rfl, rfl⟩ := HF.out
  go_enter Tryz.func38, Tryz.ntmps38
  go_wp2_with fail
  refine (C1.out _ (HT.out.alloc _)).mono ?_
  rintro e w1 ⟨rfl, T1, G1⟩
  have bx1 : AtC w1 w.heap.size 37 #[.slice a1 xs.length c1, .slice a2 ys.length c2, .slice a3 is.length c3, .slice a4 bs.length c4] := (G1.block w.heap.size (by simp) (fun e => Nat.lt_irrefl _ (HL.out _ (.inl e))) (fun e => Nat.lt_irrefl _ (HL.out _ (.inr e)))).trans (AtC.new w 37 _)
  have z1 : w.heap.size + 1 ≤ w1.heap.size := by have := G1.size; simpa using this
  have I1 := (HI.out.alloc (.cells #[.slice a1 xs.length c1, .slice a2 ys.length c2, .slice a3 is.length c3, .slice a4 bs.length c4] 37)).of_heap (w' := w1) fun m hm hlt => G1.block m hlt (fun e => (HS.out.2.1 m (HS.out.1 m (.inl e))).1 hm.1) (fun e => (HS.out.2.1 m (HS.out.1 m (.inr e))).1 hm.1)
  have J1 := (HB.out.alloc (.cells #[.slice a1 xs.length c1, .slice a2 ys.length c2, .slice a3 is.length c3, .slice a4 bs.length c4] 37)).of_heap (w' := w1) fun m hm hlt => G1.block m hlt (fun e => (HS.out.2.1 m (HS.out.1 m (.inl e))).2 hm.1) (fun e => (HS.out.2.1 m (HS.out.1 m (.inr e))).2 hm.1)
  have ch1 : Chg S w w1 := (Chg.of_below ((Below.refl _ w).alloc (Nat.le_refl _) _)).trans (Chg.of_g2 G1 (fun m e => HS.out.2.2.2 m (.inl (HS.out.1 m (.inl e)))) (fun m e => HS.out.2.2.2 m (.inl (HS.out.1 m (.inr e)))))
  have q2 : w1.cell? ⟨w.heap.size, 2, none⟩ = some (.slice a3 is.length c3) := bx1.cell 2
  have H1 := hide (And.intro bx1 (And.intro I1 (And.intro J1 (And.intro ch1 (And.intro z1 T1)))))
  clear bx1 I1 J1 ch1 z1 G1 T1 C1
  go_wp2_with fail
  refine (C2.out _ H1.out.2.1).mono ?_
  rintro e w2 ⟨ti2, rfl, I2, ch2⟩
  have bx2 : AtC w2 w.heap.size 37 #[.slice a1 xs.length c1, .slice a2 ys.length c2, .slice a3 is.length c3, .slice a4 bs.length c4] := (ch2.block w.heap.size (by have := H1.out.2.2.2.2.1; omega) (fun e => Nat.lt_irrefl _ e.2)).trans H1.out.1
  have J2 := H1.out.2.2.1.of_heap (w' := w2) fun m hm hlt => ch2.block m hlt (fun e => HS.out.2.2.1 m e.1 hm.1)
  have T2 : Two w2 0 (.slice a1 xs.length c1) (.slice a2 ys.length c2) (marksB k xs.length) (marksB (k + xs.length) ys.length) :=
    ⟨H1.out.2.2.2.2.2.a.of_heap fun m hm => ch2.block m (H1.out.2.2.2.2.2.a.lt m hm).2 (fun e => (HS.out.2.1 m (HS.out.1 m (.inl hm))).1 e.1), H1.out.2.2.2.2.2.b.of_heap fun m hm => ch2.block m (H1.out.2.2.2.2.2.b.lt m hm).2 (fun e => (HS.out.2.1 m (HS.out.1 m (.inr hm))).1 e.1), H1.out.2.2.2.2.2.ne⟩
  have chg2 : Chg S w w2 := H1.out.2.2.2.1.trans (ch2.mono fun m e => HS.out.2.2.2 m (.inr (.inl e.1)))
  have z2 : w.heap.size + 1 ≤ w2.heap.size := Nat.le_trans H1.out.2.2.2.2.1 ch2.size
  have q3 : w2.cell? ⟨w.heap.size, 3, none⟩ = some (.slice a4 bs.length c4) := bx2.cell 3
  have H2 := hide (And.intro I2 (And.intro J2 (And.intro chg2 (And.intro z2 T2))))
  clear bx2 I2 J2 chg2 z2 T2 ch2 C2 H1
  go_wp2_with fail
  refine (C3.out _ H2.out.2.1).mono ?_
  rintro e w3 ⟨tb2, rfl, J3, ch3⟩
  have I3 := H2.out.1.of_heap (w' := w3) fun m hm hlt => ch3.block m hlt (fun e => HS.out.2.2.1 m hm.1 e.1)
  have T3 : Two w3 0 (.slice a1 xs.length c1) (.slice a2 ys.length c2) (marksB k xs.length) (marksB (k + xs.length) ys.length) :=
    ⟨H2.out.2.2.2.2.a.of_heap fun m hm => ch3.block m (H2.out.2.2.2.2.a.lt m hm).2 (fun e => (HS.out.2.1 m (HS.out.1 m (.inl hm))).2 e.1), H2.out.2.2.2.2.b.of_heap fun m hm => ch3.block m (H2.out.2.2.2.2.b.lt m hm).2 (fun e => (HS.out.2.1 m (HS.out.1 m (.inr hm))).2 e.1), H2.out.2.2.2.2.ne⟩
  have H3 := hide (And.intro (HDM.out w3 ⟨S1, _, _, ti2, tb2, T3, HS.out.1, I3, J3, fun m hm => ⟨fun e => (HS.out.2.1 m hm).1 e.1, fun e => (HS.out.2.1 m hm).2 e.1⟩, fun m hm e => HS.out.2.2.1 m hm.1 e.1, fun m hm => HS.out.2.2.2 m (hm.imp id (Or.imp And.left And.left))⟩) (H2.out.2.2.1.trans (ch3.mono fun m e => HS.out.2.2.2 m (.inr (.inr e.1)))))
  clear I3 T3 J3 ch3 C3 H2
  go_wp2
  go_ret
  exact ⟨rfl, H3.out⟩
set_option maxRecDepth 100000 in
set_option maxHeartbeats 1600000 in
theorem heldDisk_any (u v iv bv : Value) (xs ys : List Bool) (is : List Ino) (bs : List Blk) (S : Nat → Prop) (k : Nat) (w : World) (h : DM w S u v iv bv k xs ys is bs) (hk0 : 1 ≤ k) (hk : cntD k xs ys is bs ≤ 100000000000000) :
    Calls Tryz.prog 41 #[.agg #[u, v, iv, bv], .int .i64 k] w fun e w' => e = .returned (.int .i64 (cntD k xs ys is bs : Nat)) ∧ Below w.heap.size w w' := by
  have HF := hide h.dr.form
  obtain ⟨S1, S2, S3, ti, tb, hT, hs1, hi, hb, d1, d2, hU⟩ := h
  have hc1 : cnt szI (k + xs.length + ys.length) is ≤ 100000000000000 := Nat.le_trans (cnt_ge _ _) hk
  have hc0 : k + xs.length + ys.length ≤ 100000000000000 := Nat.le_trans (cnt_ge _ _) hc1
  obtain ⟨K1, hK1⟩ : ∃ K, k + xs.length + ys.length = K := ⟨_, rfl⟩
  obtain ⟨K2, hK2⟩ : ∃ K, cnt szI K1 is = K := ⟨_, rfl⟩
  have hg1 : K1 ≤ K2 := by rw [← hK2]; exact cnt_ge _ _
  have hkb : cnt szB K2 bs ≤ 100000000000000 := by rw [← hK2, ← hK1]; exact hk
  have hCD : cntD k xs ys is bs = cnt szB K2 bs := by rw [cntD, hK1, hK2]
  rw [hK1] at hc1 hc0 hi hb
  rw [hK2] at hb
  rw [hCD]
  have C1 := hide (fun W h => heldN_any u v xs.length ys.length 0 k W h (by omega) (by omega) (by omega))
  rw [hK1] at C1
  have C2 := hide (fun W h => heldInoS_any iv ti is S2 K1 W h hc1)
  rw [hK2] at C2
  have C3 := hide (fun W h => heldBlkS_any bv tb bs S3 K2 W h (by omega) hkb)
  have hg2 : K2 ≤ cnt szB K2 bs := cnt_ge _ _
  generalize cnt szB K2 bs = K3 at *
  have HT := hide hT
  have HI := hide hi
  have HB := hide hb
  clear hT hi hb hs1 d1 d2 hU hk hkb hCD hK1 hK2
  obtain ⟨a1, c1, a2, c2, a3, c3, a4, c4, rfl, rfl, rfl, rfl⟩ := HF.out
  generalize (marksB k xs.length).length = l1 at *
  generalize (marksB (k + xs.length) ys.length).length = l2 at *
  generalize (mkL szI mkI (k + xs.length + ys.length) is).length = l3 at *
  generalize (mkL szB mkB (cnt szI (k + xs.length + ys.length) is) bs).length = l4 at *
  have n1 : ¬ ((K1 : Int) < 0) := by omega
  have n2 : ¬ ((K2 : Int) < 0) := by omega
  have n3 : ¬ ((K3 : Int) < 0) := by omega
  go_enter Tryz.func41, Tryz.ntmps41
  go_wp2_with fail
  refine (C1.out _ (HT.out.alloc _)).mono ?_
  rintro e w1 ⟨rfl, B1⟩
  have bx1 : AtC w1 w.heap.size 37 #[.slice a1 l1 c1, .slice a2 l2 c2, .slice a3 l3 c3, .slice a4 l4 c4] := (AtC.new w 37 _).over B1
  have b1 : Below w.heap.size w w1 := ((Below.refl _ w).alloc (Nat.le_refl _) _).trans (B1.mono (by simp))
  have q2 : w1.cell? ⟨w.heap.size, 2, none⟩ = some (.slice a3 l3 c3) := bx1.cell 2
  have H1 := hide (And.intro bx1 b1)
  clear bx1 b1 B1 C1
  go_wp2_with fail
  refine (C2.out _ (HI.out.below H1.out.2 (Nat.le_refl _))).mono ?_
  rintro e w2 ⟨rfl, B2⟩
  have bx2 := H1.out.1.over B2
  have b2 := H1.out.2.trans (B2.mono H1.out.2.size)
  have q3 : w2.cell? ⟨w.heap.size, 3, none⟩ = some (.slice a4 l4 c4) := bx2.cell 3
  have H2 := hide b2
  clear bx2 b2 B2 C2 H1
  go_wp2_with fail
  refine (C3.out _ (HB.out.below H2.out (Nat.le_refl _))).mono ?_
  rintro e w3 ⟨rfl, B3⟩
  have H3 := hide (H2.out.trans (B3.mono H2.out.size))
  clear B3 C3 H2
  go_wp2
  go_ret
  exact ⟨rfl, H3.out⟩
end Go.Proofs.YtggjillpfclajaaGreat
/- laws.markDepS and laws.heldDepS by their contracts. -/
namespace Go.Proofs.YtggjillpfclajaaGreat
open Go.RowKit Kit
theorem mk3_toInt {z : Int} {k : Nat} (h : z = (k : Int)) : (z % 3 == 0) = mk3 k := by rw [h, mk3_int]
set_option maxRecDepth 100000 in
set_option maxHeartbeats 3200000 in
theorem markDepS_any (v : Value) (ts : List Row) (xs : List Dp) (S : Nat → Prop) (k : Nat) (w : World) (h : GN KDep w S v ts xs) (hk : cnt szDp k xs ≤ 100000000000000) :
    Calls Tryz.prog 40 #[v, .int .i64 k] w fun e w' => ∃ ts', e = .returned (.int .i64 (cnt szDp k xs : Nat)) ∧ GN KDep w' S v ts' (mkL szDp mkDp k xs) ∧ Chg S w w' := by
  have hlen : k + xs.length ≤ cnt szDp k xs := cnt_len (fun x => by simp [szDp]; omega) k xs
  obtain ⟨a1, c1, rfl⟩ := h.form
  have HG := hide h
  have HK := hide hk
  clear h
  go_enter Tryz.func40, Tryz.ntmps40
  go_wp2
  go_loopw [1, 5] (fun x i wr => ∃ j : Nat, j ≤ xs.length ∧ i = .int .i64 j ∧ x = .int .i64 (cnt szDp k (xs.take j) : Nat) ∧ Hid (∃ ts, GN KDep wr S (.slice a1 xs.length c1) ts (mkd szDp mkDp k j xs)) ∧ Hid (Chg S w wr)) (fun _ i _ => xs.length - (intOf i).toNat)
  case atStart => exact ⟨0, Nat.zero_le _, rfl, rfl, ⟨ts, by rw [mkd_zero]; exact HG.out⟩, Chg.refl _ _⟩
  case round =>
    obtain ⟨j, hj, rfl, rfl, HT, HC⟩ := hrel
    by_cases hlt : j < xs.length
    · obtain ⟨ts2, hts⟩ := HT.out
      have hl2 : ts2.length = xs.length := by rw [hts.len, mkd_length]
      have hj2 : j < ts2.length := by omega
      have hin := hts.inn j hj2 (by rw [mkd_length]; exact hlt)
      rw [mkd_at k j xs hlt] at hin
      obtain ⟨p, hrow, hO⟩ := hin
      obtain ⟨g, c2, e1, -, -, k5, -⟩ := hts.row.at j hj2
      simp only [Value.slice.injEq] at e1
      obtain ⟨rfl, -, rfl⟩ := e1
      have hcle := cnt_le (sz := szDp) k xs j hlt
      have hcs := cnt_succ (sz := szDp) k xs j hlt
      have hset := mkd_set (sz := szDp) (mk := mkDp) k j xs hlt
      obtain ⟨X, hX⟩ : ∃ X, xs[j] = X := ⟨_, rfl⟩
      rw [hX] at hrow hO hcle hcs hset
      obtain ⟨id, kd, io, pt, bk, sl, nm, bt, ot, af, bl⟩ := X
      simp only at hO
      obtain ⟨pa, pc, rfl⟩ := hO.rints.form
      obtain ⟨d0, fz⟩ := hts.row.deps j hj2 hrow rfl
      simp only [DCells] at d0
      obtain ⟨k0, k1, k2, k3, k4, k5', -⟩ := d0
      obtain ⟨K, hK⟩ : ∃ K : Nat, cnt szDp k (xs.take j) = K := ⟨_, rfl⟩
      rw [hK] at hcle hcs hset ⊢
      simp only [szDp] at hcle hcs
      have hK1 : K + (10 + bl.length) ≤ 100000000000000 := Nat.le_trans hcle hk
      obtain ⟨z1, e1⟩ : ∃ z : Int, (K : Int) + 1 = z := ⟨_, rfl⟩
      obtain ⟨z2, e2⟩ : ∃ z : Int, z1 + 1 = z := ⟨_, rfl⟩
      obtain ⟨z3, e3⟩ : ∃ z : Int, z2 + 1 = z := ⟨_, rfl⟩
      obtain ⟨z4, e4⟩ : ∃ z : Int, z3 + 1 = z := ⟨_, rfl⟩
      obtain ⟨z5, e5⟩ : ∃ z : Int, z4 + 1 = z := ⟨_, rfl⟩
      obtain ⟨z6, e6⟩ : ∃ z : Int, z5 + 1 = z := ⟨_, rfl⟩
      obtain ⟨z7, e7⟩ : ∃ z : Int, z6 + 1 = z := ⟨_, rfl⟩
      obtain ⟨z8, e8⟩ : ∃ z : Int, z7 + 1 = z := ⟨_, rfl⟩
      obtain ⟨z9, e9⟩ : ∃ z : Int, z8 + 1 = z := ⟨_, rfl⟩
      obtain ⟨z10, e10⟩ : ∃ z : Int, z9 + 1 = z := ⟨_, rfl⟩
      have t1 : z1 = ((K + 1 : Nat) : Int) := by omega
      have t2 : z2 = ((K + 2 : Nat) : Int) := by omega
      have t3 : z3 = ((K + 3 : Nat) : Int) := by omega
      have t4 : z4 = ((K + 4 : Nat) : Int) := by omega
      have t5 : z5 = ((K + 5 : Nat) : Int) := by omega
      have t6 : z6 = ((K + 6 : Nat) : Int) := by omega
      have t7 : z7 = ((K + 7 : Nat) : Int) := by omega
      have t8 : z8 = ((K + 8 : Nat) : Int) := by omega
      have t9 : z9 = ((K + 9 : Nat) : Int) := by omega
      have t10 : z10 = ((K + 10 : Nat) : Int) := by omega
      have HM : Hid (∀ w2, Below ((((((wr.setCell ⟨g, j * 11, none⟩ (.int .i64 (K : Int))).setCell ⟨g, j * 11 + 1, none⟩ (.int .i64 z1)).setCell ⟨g, j * 11 + 2, none⟩ (.int .i64 z2)).setCell ⟨g, j * 11 + 3, none⟩ (.int .i64 z3)).setCell ⟨g, j * 11 + 4, none⟩ (.int .i64 z4)).setCell ⟨g, j * 11 + 5, none⟩ (.int .i64 z5)).heap.size ((((((wr.setCell ⟨g, j * 11, none⟩ (.int .i64 (K : Int))).setCell ⟨g, j * 11 + 1, none⟩ (.int .i64 z1)).setCell ⟨g, j * 11 + 2, none⟩ (.int .i64 z2)).setCell ⟨g, j * 11 + 3, none⟩ (.int .i64 z3)).setCell ⟨g, j * 11 + 4, none⟩ (.int .i64 z4)).setCell ⟨g, j * 11 + 5, none⟩ (.int .i64 z5)) w2 → (w2.cell? ⟨g, j * 11 + 6, none⟩ = some (.string nm) ∧ w2.cell? ⟨g, j * 11 + 7, none⟩ = some (.bool bt) ∧ w2.cell? ⟨g, j * 11 + 8, none⟩ = some (.bool ot) ∧ w2.cell? ⟨g, j * 11 + 9, none⟩ = some (.int .i64 af) ∧ w2.cell? ⟨g, j * 11 + 10, none⟩ = some (.slice pa bl.length pc) ∧ (∀ i, w2.frozen? ⟨g, i, none⟩ = false)) ∧ ROwns ((((w2.setCell ⟨g, j * 11 + 6, none⟩ (.string (mkT z6.toNat))).setCell ⟨g, j * 11 + 7, none⟩ (.bool ((z7 % 3) == 0))).setCell ⟨g, j * 11 + 8, none⟩ (.bool ((z8 % 3) == 0))).setCell ⟨g, j * 11 + 9, none⟩ (.int .i64 z9)) 0 3 (.slice pa bl.length pc) (ic bl) ∧ ∀ w4, ROwns w4 0 3 (.slice pa bl.length pc) (ic (marksI (K + 10) bl.length)) → ((((w2.setCell ⟨g, j * 11 + 6, none⟩ (.string (mkT z6.toNat))).setCell ⟨g, j * 11 + 7, none⟩ (.bool ((z7 % 3) == 0))).setCell ⟨g, j * 11 + 8, none⟩ (.bool ((z8 % 3) == 0))).setCell ⟨g, j * 11 + 9, none⟩ (.int .i64 z9)).grownBy w4 (Value.slice pa bl.length pc).ownBlock → (∃ ts, GN KDep w4 S (.slice (some ⟨g, 0, none⟩) xs.length c1) ts (mkd szDp mkDp k (j + 1) xs)) ∧ Chg S w w4) := fun w2 hb => by
        obtain ⟨q1, q2, q3⟩ := hts.markD rfl j hj2 hrow (K : Int) z1 z2 z3 z4 z5 hb
        obtain ⟨-, -, -, -, -, -, y6, y7, y8, y9, y10⟩ := q1
        obtain ⟨q4, q5⟩ := q3 (mkT z6.toNat) (z7 % 3 == 0) (z8 % 3 == 0) z9 bl (marksI (K + 10) bl.length) hO
        refine ⟨⟨y6, y7, y8, y9, y10, q2⟩, q4, fun w4 hr hg => ?_⟩
        obtain ⟨r1, r2⟩ := q5 w4 hr hg
        rw [show (⟨(K : Int), z1, z2, z3, z4, z5, mkT z6.toNat, z7 % 3 == 0, z8 % 3 == 0, z9, marksI (K + 10) bl.length⟩ : Dp) = mkDp K ⟨id, kd, io, pt, bk, sl, nm, bt, ot, af, bl⟩ by
          rw [mk3_toInt t7, mk3_toInt t8, t1, t2, t3, t4, t5, t6, t9, Int.toNat_natCast]; rfl, hset] at r1
        exact ⟨⟨_, r1⟩, HC.out.trans r2⟩
      have HCS := hide hcs
      have HZ10 := hide t10
      have f0 := fz (j * 11)
      have f1 := fz (j * 11 + 1)
      have f2 := fz (j * 11 + 2)
      have f3 := fz (j * 11 + 3)
      have f4 := fz (j * 11 + 4)
      have f5 := fz (j * 11 + 5)
      have j0 : (0 : Int) ≤ (j : Int) := by omega
      have j1 : (j : Int) < (xs.length : Int) := by omega
      clear hts HT hcle hset hK hrow hO hcs fz hl2 hj2 hX t1 t2 t3 t4 t5 t6 t7 t8 t9 t10
      go_wp2_with (first | (go_at_call 67; refine (markText_int _ _ (by omega) (by omega)).mono ?_; rintro e w2 ⟨rfl, B2⟩; obtain ⟨⟨y6, y7, y8, y9, y10, yf⟩, HO', HW'⟩ := HM.out w2 B2; have HO := hide HO'; have HW := hide HW'; have u6 := yf (j * 11 + 6); have u7 := yf (j * 11 + 7); have u8 := yf (j * 11 + 8); have u9 := yf (j * 11 + 9); clear B2 yf HO' HW') | (go_at_call 51; rw [HZ10.out]; refine (markI_any _ bl 0 (K + 10) _ HO.out (by omega) (by omega)).mono ?_; rintro e w4 ⟨rfl, R4, G4⟩; have H1 := hide (HW.out w4 R4 G4); clear R4 G4))
      go_roundw
      case rel => exact ⟨j + 1, by omega, by go_num, by rw [HCS.out]; go_num, H1.out.1, H1.out.2⟩
      case measure => simp [intOf]; omega
    · have hjl : j = xs.length := by omega
      have HJ := hide hjl
      clear hjl
      go_wp2
      go_ret
      obtain ⟨ts2, hts⟩ := HT.out
      rw [HJ.out, mkd_all] at hts
      exact ⟨ts2, by rw [HJ.out, cnt_all]; rfl, hts, HC.out⟩
end Go.Proofs.YtggjillpfclajaaGreat
/- laws.heldDepS by its contract. -/
namespace Go.Proofs.YtggjillpfclajaaGreat
open Go.RowKit Kit
set_option maxRecDepth 100000 in
set_option maxHeartbeats 3200000 in
theorem heldDepS_any (v : Value) (ts : List Row) (xs : List Dp) (S : Nat → Prop) (k : Nat) (w : World) (h : GN KDep w S v ts (mkL szDp mkDp k xs)) (hk : cnt szDp k xs ≤ 100000000000000) :
    Calls Tryz.prog 43 #[v, .int .i64 k] w fun e w' => e = .returned (.int .i64 (cnt szDp k xs : Nat)) ∧ Below w.heap.size w w' := by
  have hlen : k + xs.length ≤ cnt szDp k xs := cnt_len (fun x => by simp [szDp]; omega) k xs
  obtain ⟨a1, c1, rfl⟩ := h.form
  rw [mkL_length] at *
  have HG := hide h
  have HK := hide hk
  clear h
  go_enter Tryz.func43, Tryz.ntmps43
  go_wp2
  go_loopw [1, 5] (fun x i wr => ∃ j : Nat, j ≤ xs.length ∧ i = .int .i64 j ∧ x = .int .i64 (cnt szDp k (xs.take j) : Nat) ∧ Hid (Below w.heap.size w wr)) (fun _ i _ => xs.length - (intOf i).toNat)
  case atStart => exact ⟨0, Nat.zero_le _, rfl, rfl, Below.refl _ _⟩
  case round =>
    obtain ⟨j, hj, rfl, rfl, HC⟩ := hrel
    by_cases hlt : j < xs.length
    · have hl2 : ts.length = xs.length := by rw [HG.out.len, mkL_length]
      have hj2 : j < ts.length := by omega
      have hin := HG.out.inn j hj2 (by rw [mkL_length]; exact hlt)
      rw [mkL_at k j xs hlt] at hin
      obtain ⟨p, hrow, hO⟩ := hin
      obtain ⟨g, c2, e1, -, -, k5, -⟩ := HG.out.row.at j hj2
      simp only [Value.slice.injEq] at e1
      obtain ⟨rfl, -, rfl⟩ := e1
      have hcle := cnt_le (sz := szDp) k xs j hlt
      have hcs := cnt_succ (sz := szDp) k xs j hlt
      obtain ⟨n, hn⟩ : ∃ n, xs[j].bl.length = n := ⟨_, rfl⟩
      have hszj : szDp xs[j] = 10 + n := by rw [← hn]; rfl
      rw [hszj] at hcle hcs
      obtain ⟨K, hK⟩ : ∃ K : Nat, cnt szDp k (xs.take j) = K := ⟨_, rfl⟩
      rw [hK] at hcle hcs hrow hO ⊢
      have hK1 : K + (10 + n) ≤ 100000000000000 := Nat.le_trans hcle hk
      have hO2 : ROwns w 0 3 p (ic (marksI (K + 10) n)) := by rw [← hn]; exact hO
      obtain ⟨pa, pc, hpf⟩ := hO2.rints.form
      rw [marks_lengthI] at hpf
      subst hpf
      obtain ⟨d0, -⟩ := HG.out.row.deps j hj2 hrow rfl
      obtain ⟨z1, e1⟩ : ∃ z : Int, (K : Int) + 1 = z := ⟨_, rfl⟩
      obtain ⟨z2, e2⟩ : ∃ z : Int, z1 + 1 = z := ⟨_, rfl⟩
      obtain ⟨z3, e3⟩ : ∃ z : Int, z2 + 1 = z := ⟨_, rfl⟩
      obtain ⟨z4, e4⟩ : ∃ z : Int, z3 + 1 = z := ⟨_, rfl⟩
      obtain ⟨z5, e5⟩ : ∃ z : Int, z4 + 1 = z := ⟨_, rfl⟩
      obtain ⟨z6, e6⟩ : ∃ z : Int, z5 + 1 = z := ⟨_, rfl⟩
      obtain ⟨z7, e7⟩ : ∃ z : Int, z6 + 1 = z := ⟨_, rfl⟩
      obtain ⟨z8, e8⟩ : ∃ z : Int, z7 + 1 = z := ⟨_, rfl⟩
      obtain ⟨z9, e9⟩ : ∃ z : Int, z8 + 1 = z := ⟨_, rfl⟩
      obtain ⟨z10, e10⟩ : ∃ z : Int, z9 + 1 = z := ⟨_, rfl⟩
      have t1 : z1 = ((K + 1 : Nat) : Int) := by omega
      have t2 : z2 = ((K + 2 : Nat) : Int) := by omega
      have t3 : z3 = ((K + 3 : Nat) : Int) := by omega
      have t4 : z4 = ((K + 4 : Nat) : Int) := by omega
      have t5 : z5 = ((K + 5 : Nat) : Int) := by omega
      have t6 : z6 = ((K + 6 : Nat) : Int) := by omega
      have t7 : z7 = ((K + 7 : Nat) : Int) := by omega
      have t8 : z8 = ((K + 8 : Nat) : Int) := by omega
      have t9 : z9 = ((K + 9 : Nat) : Int) := by omega
      have t10 : z10 = ((K + 10 : Nat) : Int) := by omega
      have HS : Hid (∀ w', Below w.heap.size w w' → w'.cell? ⟨g, j * 11, none⟩ = some (.int .i64 (K : Int)) ∧ w'.cell? ⟨g, j * 11 + 1, none⟩ = some (.int .i64 z1) ∧ w'.cell? ⟨g, j * 11 + 2, none⟩ = some (.int .i64 z2) ∧ w'.cell? ⟨g, j * 11 + 3, none⟩ = some (.int .i64 z3) ∧ w'.cell? ⟨g, j * 11 + 4, none⟩ = some (.int .i64 z4) ∧ w'.cell? ⟨g, j * 11 + 5, none⟩ = some (.int .i64 z5) ∧ w'.cell? ⟨g, j * 11 + 6, none⟩ = some (.string (mkT z6.toNat)) ∧ w'.cell? ⟨g, j * 11 + 7, none⟩ = some (.bool (z7 % 3 == 0)) ∧ w'.cell? ⟨g, j * 11 + 8, none⟩ = some (.bool (z8 % 3 == 0)) ∧ w'.cell? ⟨g, j * 11 + 9, none⟩ = some (.int .i64 z9) ∧ w'.cell? ⟨g, j * 11 + 10, none⟩ = some (.slice pa n pc)) := fun w' hb => by
        have d1 := d0.below hb k5
        simp only [DCells, mkDp] at d1
        rw [mk3_toInt t7, mk3_toInt t8, t1, t2, t3, t4, t5, t6, t9, Int.toNat_natCast]
        exact d1
      have HO : Hid (∀ w', Below w.heap.size w w' → ROwns w' 0 3 (.slice pa n pc) (ic (marksI (K + 10) n))) := fun w' hb => hO2.below hb (Nat.le_refl _)
      have HCS := hide hcs
      have HZ10 := hide t10
      have j0 : (0 : Int) ≤ (j : Int) := by omega
      have j1 : (j : Int) < (xs.length : Int) := by omega
      have hsz := HC.out.size
      obtain ⟨r0, r1, r2, r3, r4, r5, r6, r7, r8, r9, r10⟩ := HS.out _ HC.out
      clear hcle hszj hK hrow hO hO2 hcs hl2 hj2 hn d0 t1 t2 t3 t4 t5 t6 t7 t8 t9 t10
      go_wp2_with fail
      go_region_held3 (fun w' => w'.cell? ⟨g, j * 11, none⟩ = some (.int .i64 (K : Int)) ∧ w'.cell? ⟨g, j * 11 + 1, none⟩ = some (.int .i64 z1) ∧ w'.cell? ⟨g, j * 11 + 2, none⟩ = some (.int .i64 z2) ∧ w'.cell? ⟨g, j * 11 + 3, none⟩ = some (.int .i64 z3) ∧ w'.cell? ⟨g, j * 11 + 4, none⟩ = some (.int .i64 z4) ∧ w'.cell? ⟨g, j * 11 + 5, none⟩ = some (.int .i64 z5) ∧ w'.cell? ⟨g, j * 11 + 6, none⟩ = some (.string (mkT z6.toNat)) ∧ w'.cell? ⟨g, j * 11 + 7, none⟩ = some (.bool (z7 % 3 == 0)) ∧ w'.cell? ⟨g, j * 11 + 8, none⟩ = some (.bool (z8 % 3 == 0)) ∧ w'.cell? ⟨g, j * 11 + 9, none⟩ = some (.int .i64 z9) ∧ w'.cell? ⟨g, j * 11 + 10, none⟩ = some (.slice pa n pc)) (first | exact HS.out _ HC.out.drew | exact HS.out _ (HC.out.trans ((of_drew B6).mono hsz))) ((go_at_call 67; refine (markText_int z6 _ (by omega) (by omega)).mono ?_; rintro e w6 ⟨rfl, B6⟩))
      have HB2 := hide (HC.out.trans ((of_drew B6).mono hsz))
      clear B6 r0 r1 r2 r3 r4 r5 r6 r7 r8 r9 r10
      obtain ⟨-, -, -, -, -, -, -, r7, r8, r9, r10⟩ := HS.out _ HB2.out
      go_wp2_with (go_at_call 71; rw [HZ10.out]; refine (heldI_any _ n 0 (K + 10) _ (HO.out _ HB2.out) (by omega) (by omega)).mono ?_; rintro e w7 ⟨rfl, B7⟩; have H1 := hide (HB2.out.trans (B7.mono HB2.out.size)); clear B7; have hK3 : ¬ (((K + 10 + n : Nat) : Int) < 0) := by omega)
      go_roundw
      case rel => exact ⟨j + 1, by omega, by go_num, by rw [HCS.out]; go_num, H1.out⟩
      case measure => simp [intOf]; omega
    · have hjl : j = xs.length := by omega
      have HJ := hide hjl
      clear hjl
      go_wp2
      go_ret
      exact ⟨by rw [HJ.out, cnt_all]; rfl, HC.out⟩
end Go.Proofs.YtggjillpfclajaaGreat
/- laws.markMem and laws.heldMem by their contracts. -/
namespace Go.Proofs.YtggjillpfclajaaGreat.Kit
open Go.RowKit
/-- The mark behind those of a memory. -/
def cntF (k : Nat) (m : MD) : Nat := cntD k m.xs m.ys m.is m.bs + m.fs.length
def cntM (k : Nat) (m : MD) : Nat := cnt szDp (cntF k m) m.ds
/-- A memory that is marked from k on. -/
def mkM (k : Nat) (m : MD) : MD := ⟨marksB k m.xs.length, marksB (k + m.xs.length) m.ys.length, mkL szI mkI (k + m.xs.length + m.ys.length) m.is, mkL szB mkB (cnt szI (k + m.xs.length + m.ys.length) m.is) m.bs, marksB (cntD k m.xs m.ys m.is m.bs) m.fs.length, mkL szDp mkDp (cntF k m) m.ds, m.nx⟩
theorem cntM_ge (k : Nat) (m : MD) : cntD k m.xs m.ys m.is m.bs ≤ cntM k m ∧ cntF k m ≤ cntM k m := by
  have h := cnt_ge (sz := szDp) (cntF k m) m.ds
  exact ⟨Nat.le_trans (Nat.le_add_right _ _) h, h⟩
end Go.Proofs.YtggjillpfclajaaGreat.Kit
namespace Go.Proofs.YtggjillpfclajaaGreat
open Go.RowKit Kit
set_option maxRecDepth 100000 in
set_option maxHeartbeats 1600000 in
theorem markMem_any (u v iv bv dv pv : Value) (m : MD) (S : Nat → Prop) (k : Nat) (w : World) (h : MO w S u v iv bv dv pv m) (hk0 : 1 ≤ k) (hk : cntM k m ≤ 100000000000000) :
    Calls Tryz.prog 12 #[.agg #[u, v, iv, bv, dv, pv, .int .i64 m.nx], .int .i64 k] w fun e w' => e = .returned (.int .i64 (cntM k m : Nat)) ∧ MO w' S u v iv bv dv pv (mkM k m) ∧ Chg S w w' := by
  obtain ⟨a1, c1, a2, c2, a3, c3, a4, c4, a5, c5, a6, c6, rfl, rfl, rfl, rfl, rfl, rfl⟩ := h.mr.form
  obtain ⟨S1, S2, S3, ts, h1, h2, h3, h4, h5, h6, h7⟩ := h.bound
  have hc1 := (cntM_ge k m).1
  have hc2 := (cntM_ge k m).2
  obtain ⟨K1, hK1⟩ : ∃ K, cntD k m.xs m.ys m.is m.bs = K := ⟨_, rfl⟩
  have hF : cntF k m = K1 + m.fs.length := by unfold cntF; rw [hK1]
  have CM : Hid (∀ W, DO W S1 (.slice a1 m.xs.length c1) (.slice a2 m.ys.length c2) (.slice a3 m.is.length c3) (.slice a4 m.bs.length c4) m.xs m.ys m.is m.bs → Calls Tryz.prog 38 #[.agg #[.slice a1 m.xs.length c1, .slice a2 m.ys.length c2, .slice a3 m.is.length c3, .slice a4 m.bs.length c4], .int .i64 k] W fun e w' => e = .returned (.int .i64 (K1 : Nat)) ∧ DM w' S1 (.slice a1 m.xs.length c1) (.slice a2 m.ys.length c2) (.slice a3 m.is.length c3) (.slice a4 m.bs.length c4) k m.xs m.ys m.is m.bs ∧ Chg S1 W w') := fun W hW => by
    have := markDisk_any _ _ _ _ m.xs m.ys m.is m.bs S1 k W hW hk0 (Nat.le_trans hc1 hk)
    rw [hK1] at this
    exact this
  have CD : Hid (∀ ts W, GN KDep W S3 (.slice a6 m.ds.length c6) ts m.ds → Calls Tryz.prog 40 #[.slice a6 m.ds.length c6, .int .i64 ((K1 + m.fs.length : Nat) : Int)] W fun e w' => ∃ ts', e = .returned (.int .i64 (cntM k m : Nat)) ∧ GN KDep w' S3 (.slice a6 m.ds.length c6) ts' (mkL szDp mkDp (cntF k m) m.ds) ∧ Chg S3 W w') := fun ts W hW => by
    have := markDepS_any _ ts m.ds S3 (cntF k m) W hW hk
    rw [← hF]
    exact this
  have hb1 : K1 ≤ 100000000000000 := by omega
  have hb2 : K1 + m.fs.length ≤ 100000000000000 := by omega
  have hlow : ∀ q, S1 q ∨ S2 q ∨ S3 q → q < w.heap.size := fun q hq => (h7 q hq).2
  have hSS : ∀ q, S1 q ∨ S2 q ∨ S3 q → S q := fun q hq => (h7 q hq).1
  have H1 := hide (h1.alloc (.cells #[.slice a1 m.xs.length c1, .slice a2 m.ys.length c2, .slice a3 m.is.length c3, .slice a4 m.bs.length c4, .slice a5 m.fs.length c5, .slice a6 m.ds.length c6, .int .i64 m.nx] 40))
  have H2 := hide (And.intro (h2.alloc (.cells #[.slice a1 m.xs.length c1, .slice a2 m.ys.length c2, .slice a3 m.is.length c3, .slice a4 m.bs.length c4, .slice a5 m.fs.length c5, .slice a6 m.ds.length c6, .int .i64 m.nx] 40)) h3)
  have H3 := hide (h4.alloc (.cells #[.slice a1 m.xs.length c1, .slice a2 m.ys.length c2, .slice a3 m.is.length c3, .slice a4 m.bs.length c4, .slice a5 m.fs.length c5, .slice a6 m.ds.length c6, .int .i64 m.nx] 40))
  have HD := hide (And.intro h5 (And.intro h6 (And.intro hlow hSS)))
  have HK1 := hide hK1
  clear h h1 h2 h3 h4 h5 h6 h7 hlow hSS hc1 hc2 hK1 hF hk
  go_enter Tryz.func12, Tryz.ntmps12
  go_wp2_with fail
  refine (CM.out _ H1.out).mono ?_
  rintro e w1 ⟨rfl, D1, C1⟩
  have K0 : AtC w1 w.heap.size 40 #[.slice a1 m.xs.length c1, .slice a2 m.ys.length c2, .slice a3 m.is.length c3, .slice a4 m.bs.length c4, .slice a5 m.fs.length c5, .slice a6 m.ds.length c6, .int .i64 m.nx] := (C1.block _ (by simp) (fun e => by have := HD.out.2.2.1 _ (.inl e); omega)).trans (AtC.new w 40 _)
  have O2 : ROwns w1 0 4 (.slice a5 m.fs.length c5) (fc m.fs) := H2.out.1.of_heap fun q hq => C1.block q (H2.out.1.lt q hq).2 (fun e => (HD.out.1 q e).1 (H2.out.2 q hq))
  have G3 : GN KDep w1 S3 (.slice a6 m.ds.length c6) ts m.ds := H3.out.chg C1 (fun q hq e => (HD.out.1 q e).2 hq)
  have p4 : w1.cell? ⟨w.heap.size, 4, none⟩ = some (.slice a5 m.fs.length c5) := K0.cell 4
  have HX := hide (And.intro D1 (And.intro C1 (And.intro O2 (And.intro G3 K0))))
  clear D1 C1 O2 G3 K0
  go_wp2_with fail
  refine (markB_any _ m.fs 0 K1 _ HX.out.2.2.1 (by omega) (by omega)).mono ?_
  rintro e w2 ⟨rfl, R2, G2⟩
  have C2 : Chg S2 w1 w2 := Chg.of_grown G2 (fun q hq => H2.out.2 q hq)
  have D2 := HX.out.1.chg C2 (fun q hq e => (HD.out.1 q hq).1 e)
  have G3 : GN KDep w2 S3 (.slice a6 m.ds.length c6) ts m.ds := HX.out.2.2.2.1.chg C2 (fun q hq e => HD.out.2.1 q e hq)
  have K0 := (C2.block _ HX.out.2.2.2.2.lt (fun e => by have := HD.out.2.2.1 _ (.inr (.inl e)); omega)).trans HX.out.2.2.2.2
  have p5 : w2.cell? ⟨w.heap.size, 5, none⟩ = some (.slice a6 m.ds.length c6) := AtC.cell K0 5
  have HY := hide (And.intro D2 (And.intro R2 (And.intro C2 G3)))
  clear D2 R2 G2 C2 G3 K0 p4
  go_wp2_with fail
  refine (CD.out ts _ HY.out.2.2.2).mono ?_
  rintro e w3 ⟨ts3, rfl, G3, C3⟩
  have HZ := hide (And.intro G3 C3)
  clear G3 C3 p5
  go_wp2
  go_ret
  have R3 : ROwns w3 0 4 (.slice a5 m.fs.length c5) (fc (mkM k m).fs) := by
    show ROwns w3 0 4 (.slice a5 m.fs.length c5) (fc (marksB (cntD k m.xs m.ys m.is m.bs) m.fs.length))
    rw [HK1.out]
    exact HY.out.2.1.of_heap (fun q hq => HZ.out.2.block q (HY.out.2.1.lt q hq).2 (fun e => HD.out.2.1 q (H2.out.2 q hq) e))
  refine ⟨rfl, ⟨S1, S2, S3, ts3, HY.out.1.chg HZ.out.2 (fun q hq e => (HD.out.1 q hq).2 e), R3, H2.out.2, HZ.out.1, HD.out.1, HD.out.2.1, HD.out.2.2.2⟩, ?_⟩
  have c0 : Chg S w w1 := (Chg.of_below ((Below.refl _ w).alloc (Nat.le_refl _) _)).trans (HX.out.2.1.mono fun q hq => HD.out.2.2.2 q (.inl hq))
  exact (c0.trans (HY.out.2.2.1.mono fun q hq => HD.out.2.2.2 q (.inr (.inl hq)))).trans (HZ.out.2.mono fun q hq => HD.out.2.2.2 q (.inr (.inr hq)))
set_option maxRecDepth 100000 in
set_option maxHeartbeats 1600000 in
theorem heldMem_any (u v iv bv dv pv : Value) (m : MD) (S : Nat → Prop) (k : Nat) (w : World) (h : MO w S u v iv bv dv pv (mkM k m)) (hk0 : 1 ≤ k) (hk : cntM k m ≤ 100000000000000) :
    Calls Tryz.prog 13 #[.agg #[u, v, iv, bv, dv, pv, .int .i64 m.nx], .int .i64 k] w fun e w' => e = .returned (.int .i64 (cntM k m : Nat)) ∧ Below w.heap.size w w' := by
  obtain ⟨S1, S2, S3, ts, h1, h2, -, h4, -⟩ := h
  obtain ⟨a1, c1, a2, c2, a3, c3, a4, c4, rfl, rfl, rfl, rfl⟩ := h1.dr.form
  obtain ⟨a5, c5, rfl⟩ := h2.rfl.form
  obtain ⟨a6, c6, rfl⟩ := h4.form
  have hc1 := (cntM_ge k m).1
  have hc2 := (cntM_ge k m).2
  obtain ⟨K1, hK1⟩ : ∃ K, cntD k m.xs m.ys m.is m.bs = K := ⟨_, rfl⟩
  have hF : cntF k m = K1 + m.fs.length := by unfold cntF; rw [hK1]
  have H1 : Hid (∀ W, Below w.heap.size w W → Calls Tryz.prog 41 #[.agg #[.slice a1 (mkM k m).xs.length c1, .slice a2 (mkM k m).ys.length c2, .slice a3 (mkM k m).is.length c3, .slice a4 (mkM k m).bs.length c4], .int .i64 k] W fun e w' => e = .returned (.int .i64 (K1 : Nat)) ∧ Below W.heap.size W w') := fun W hW => by
    have := heldDisk_any _ _ _ _ m.xs m.ys m.is m.bs S1 k W (h1.below hW (Nat.le_refl _)) hk0 (Nat.le_trans hc1 hk)
    rw [hK1] at this
    exact this
  have H2 : Hid (∀ W, Below w.heap.size w W → ROwns W 0 4 (.slice a5 (mkM k m).fs.length c5) (fc (marksB K1 m.fs.length))) := fun W hW => by
    rw [← hK1]
    exact h2.below hW (Nat.le_refl _)
  have H3 : Hid (∀ W, Below w.heap.size w W → Calls Tryz.prog 43 #[.slice a6 (mkM k m).ds.length c6, .int .i64 ((K1 + m.fs.length : Nat) : Int)] W fun e w' => e = .returned (.int .i64 (cntM k m : Nat)) ∧ Below W.heap.size W w') := fun W hW => by
    have := heldDepS_any _ ts m.ds S3 (cntF k m) W (h4.below hW (Nat.le_refl _)) hk
    rw [← hF]
    exact this
  have hb1 : K1 ≤ 100000000000000 := by omega
  have hb2 : K1 + m.fs.length ≤ 100000000000000 := by omega
  clear h1 h2 h4 hc1 hc2 hK1 hF hk
  obtain ⟨N, hN⟩ : ∃ N, cntM k m = N := ⟨_, rfl⟩
  rw [hN] at H3 ⊢
  obtain ⟨n1, q1⟩ : ∃ n, (mkM k m).xs.length = n := ⟨_, rfl⟩
  obtain ⟨n2, q2⟩ : ∃ n, (mkM k m).ys.length = n := ⟨_, rfl⟩
  obtain ⟨n3, q3⟩ : ∃ n, (mkM k m).is.length = n := ⟨_, rfl⟩
  obtain ⟨n4, q4⟩ : ∃ n, (mkM k m).bs.length = n := ⟨_, rfl⟩
  obtain ⟨n5, q5⟩ : ∃ n, (mkM k m).fs.length = n := ⟨_, rfl⟩
  obtain ⟨n6, q6⟩ : ∃ n, (mkM k m).ds.length = n := ⟨_, rfl⟩
  rw [q1, q2, q3, q4] at H1
  rw [q5] at H2
  rw [q6] at H3
  rw [q1, q2, q3, q4, q5, q6]
  clear q1 q2 q3 q4 q5 q6 hN
  have B0 : Below w.heap.size w (w.alloc (.cells #[.slice a1 n1 c1, .slice a2 n2 c2, .slice a3 n3 c3, .slice a4 n4 c4, .slice a5 n5 c5, .slice a6 n6 c6, .int .i64 m.nx] 40)) := (Below.refl _ w).alloc (Nat.le_refl _) _
  have HB0 := hide B0
  have nN : ¬ ((N : Int) < 0) := by omega
  have nK : ¬ ((K1 : Int) < 0) := by omega
  have nF : ¬ (((K1 + m.fs.length : Nat) : Int) < 0) := by omega
  clear B0
  go_enter Tryz.func13, Tryz.ntmps13
  go_wp2_with fail
  refine (H1.out _ HB0.out).mono ?_
  rintro e w1 ⟨rfl, B1⟩
  have K0 : AtC w1 w.heap.size 40 #[.slice a1 n1 c1, .slice a2 n2 c2, .slice a3 n3 c3, .slice a4 n4 c4, .slice a5 n5 c5, .slice a6 n6 c6, .int .i64 m.nx] := (AtC.new w 40 _).over B1
  have p4 : w1.cell? ⟨w.heap.size, 4, none⟩ = some (.slice a5 n5 c5) := K0.cell 4
  have HB1 := hide (HB0.out.trans (B1.mono HB0.out.size))
  have HK0 := hide K0
  clear B1 K0
  go_wp2_with fail
  refine (heldB_any _ m.fs.length 0 K1 _ (H2.out _ HB1.out) (by omega) (by omega)).mono ?_
  rintro e w2 ⟨rfl, B2⟩
  have K0 := HK0.out.over B2
  have p5 : w2.cell? ⟨w.heap.size, 5, none⟩ = some (.slice a6 n6 c6) := K0.cell 5
  have HB2 := hide (HB1.out.trans (B2.mono HB1.out.size))
  clear B2 K0 p4
  go_wp2_with fail
  refine (H3.out _ HB2.out).mono ?_
  rintro e w3 ⟨rfl, B3⟩
  have HB3 := hide (HB2.out.trans (B3.mono HB2.out.size))
  clear B3 p5
  go_wp2
  go_ret
  exact ⟨rfl, HB3.out⟩
end Go.Proofs.YtggjillpfclajaaGreat
/- Marks of what is not too big are small. No Go function is spoken of. -/
namespace Go.Proofs.YtggjillpfclajaaGreat.Kit
open Go.RowKit
theorem cnt_big {α : Type} {sz : α → Nat} {M : Nat} (k : Nat) (l : List α) (h : ∀ (j : Nat) (h : j < l.length), sz l[j] ≤ M) : cnt sz k l ≤ k + l.length * M := by
  induction l generalizing k with
  | nil => simp [cnt]
  | cons x r ih =>
    have h0 := h 0 (by simp)
    have := ih (k + sz x) (fun j hj => h (j + 1) (by simpa using hj))
    simp only [cnt, List.length_cons, Nat.add_mul] at this ⊢
    simp only [List.getElem_cons_zero] at h0
    omega
/-- Marks of a disk that is not too big are small. -/
theorem cntD_big {xs ys : List Bool} {is : List Ino} {bs : List Blk} (h : Big 1048576 xs ys is bs) : cntD 1 xs ys is bs ≤ 10000000000000 := by
  have h1 := cnt_big (sz := szI) (M := 1048578) (1 + xs.length + ys.length) is (fun j hj => by have := h.p j hj; unfold szI; omega)
  have h2 := cnt_big (sz := szB) (M := 2097154) (cnt szI (1 + xs.length + ys.length) is) bs (fun j hj => by have := (h.s j hj).1; unfold szB; omega)
  have h3 : is.length * 1048578 ≤ 1048576 * 1048578 := Nat.mul_le_mul_right _ h.i
  have h4 : bs.length * 2097154 ≤ 1048576 * 2097154 := Nat.mul_le_mul_right _ h.b
  have := h.x
  have := h.y
  unfold cntD
  omega
theorem cntM_big {m : MD} (h : BigM 1048576 m) : cntM 1 m ≤ 100000000000000 := by
  have h1 := cnt_big (sz := szDp) (M := 1048586) (cntF 1 m) m.ds (fun j hj => by have := h.b j hj; unfold szDp; omega)
  have h3 : m.ds.length * 1048586 ≤ 1048576 * 1048586 := Nat.mul_le_mul_right _ h.l
  have := cntD_big h.d
  have := h.f
  unfold cntM
  unfold cntF at h1 ⊢
  omega
end Go.Proofs.YtggjillpfclajaaGreat.Kit
