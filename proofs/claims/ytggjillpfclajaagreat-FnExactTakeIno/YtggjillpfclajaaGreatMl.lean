
/- laws.markInodeS, laws.markBlockS, laws.heldInodeS, laws.heldBlockS by their contracts. -/
import Derived.Test.YtggjillpfclajaaGreatMk
namespace Go.Proofs.YtggjillpfclajaaGreat
open Go.RowKit Kit
/-- How many marks an inode, a block takes, and each of them marked. -/
def szI (x : Ino) : Nat := 2 + x.2.2.length
def mkI (k : Nat) (x : Ino) : Ino := ((k : Int), ((k + 1 : Nat) : Int), marksI (k + 2) x.2.2.length)
def szB (b : Blk) : Nat := 2 + b.2.1.length * 2
def mkB (k : Nat) (b : Blk) : Blk := (mk3 k, mkS (k + 1) b.2.1.length, mkT (k + 1 + b.2.1.length * 2))
set_option maxRecDepth 100000 in
set_option maxHeartbeats 1600000 in
theorem markInoS_any (v : Value) (ts : List V3) (xs : List Ino) (S : Nat → Prop) (k : Nat) (w : World) (h : GO KI w S v ts xs) (hk : cnt szI k xs ≤ 100000000000000) :
    Calls Tryz.prog 65 #[v, .int .i64 k] w fun e w' => ∃ ts', e = .returned (.int .i64 (cnt szI k xs : Nat)) ∧ GO KI w' S v ts' (mkL szI mkI k xs) ∧ Chg S w w' := by
  have hlen : k + xs.length ≤ cnt szI k xs := cnt_len (fun x => by simp [szI]; omega) k xs
  obtain ⟨a1, c1, rfl⟩ := h.form
  have HG := hide h
  have HK := hide hk
  clear h
  go_enter Tryz.func65, Tryz.ntmps65
  go_wp2
  go_loopw [1, 5] (fun x i wr => ∃ j : Nat, j ≤ xs.length ∧ i = .int .i64 j ∧ x = .int .i64 (cnt szI k (xs.take j) : Nat) ∧ Hid (∃ ts, GO KI wr S (.slice a1 xs.length c1) ts (mkd szI mkI k j xs)) ∧ Hid (Chg S w wr)) (fun _ i _ => xs.length - (intOf i).toNat)
  case atStart => exact ⟨0, Nat.zero_le _, rfl, rfl, ⟨ts, by rw [mkd_zero]; exact HG.out⟩, Chg.refl _ _⟩
  case round =>
    obtain ⟨j, hj, rfl, rfl, HT, HC⟩ := hrel
    by_cases hlt : j < xs.length
    · obtain ⟨ts2, hts⟩ := HT.out
      have hl2 : ts2.length = xs.length := by rw [hts.len, mkd_length]
      have hj2 : j < ts2.length := by omega
      obtain ⟨g, c2, e1, k1, k2, k3, k4, k5, -⟩ := hts.row.at j hj2
      simp only [Value.slice.injEq] at e1
      obtain ⟨rfl, -, rfl⟩ := e1
      have hin := hts.inn j hj2 (by rw [mkd_length]; exact hlt)
      rw [mkd_at k j xs hlt] at hin
      obtain ⟨i1, i2, i3⟩ := hin
      obtain ⟨p, hp⟩ : ∃ p, ts2[j].2.2 = p := ⟨_, rfl⟩
      obtain ⟨l, hl⟩ : ∃ l, xs[j].2.2 = l := ⟨_, rfl⟩
      rw [i1] at k1
      rw [i2] at k2
      rw [hp] at k3 i3
      rw [hl] at i3
      have hcle := cnt_le (sz := szI) k xs j hlt
      have hcs := cnt_succ (sz := szI) k xs j hlt
      have hset := mkd_set (sz := szI) (mk := mkI) k j xs hlt
      have hszj : szI xs[j] = 2 + l.length := by rw [← hl]; rfl
      rw [hszj] at hcle hcs
      have hmk : ∀ K, mkI K xs[j] = ((K : Int), ((K + 1 : Nat) : Int), marksI (K + 2) l.length) := fun K => by rw [← hl]; rfl
      rw [hmk] at hset
      obtain ⟨K, hK⟩ : ∃ K : Nat, cnt szI k (xs.take j) = K := ⟨_, rfl⟩
      rw [hK] at hcle hcs hset ⊢
      have hK1 : K + (2 + l.length) ≤ 100000000000000 := Nat.le_trans hcle hk
      have HM : Hid (∀ w1, ROwns w1 0 3 p (ic (marksI (K + 2) l.length)) → ((wr.setCell ⟨g, j * 3, none⟩ (.int .i64 (K : Int))).setCell ⟨g, j * 3 + 1, none⟩ (.int .i64 ((K : Int) + 1))).grownBy w1 p.ownBlock → (∃ ts, GO KI w1 S (.slice (some ⟨g, 0, none⟩) xs.length c1) ts (mkd szI mkI k (j + 1) xs)) ∧ Chg S w w1) := fun w1 hr hg => by
        have := hts.markI rfl j hj2 (K : Int) ((K + 1 : Nat) : Int) (marksI (K + 2) l.length) (by rw [hp]; exact hr) (by rw [hp]; exact hg)
        rw [hset] at this
        exact ⟨⟨_, this.1⟩, HC.out.trans this.2⟩
      have HO : Hid (ROwns ((wr.setCell ⟨g, j * 3, none⟩ (.int .i64 (K : Int))).setCell ⟨g, j * 3 + 1, none⟩ (.int .i64 ((K : Int) + 1))) 0 3 p (ic l)) := i3.of_heap fun m hm => by
        have hne : m ≠ g := fun e => hts.out j hj2 m (by rw [show KI.p ts2[j] = ts2[j].2.2 from rfl, hp]; exact hm) (by rw [e]; rfl)
        exact (heap_setCell_other _ ⟨g, j * 3 + 1, none⟩ m _ (by simpa using hne)).trans (heap_setCell_other _ ⟨g, j * 3, none⟩ m _ (by simpa using hne))
      have HCS := hide hcs
      have f0 := k4 (j * 3)
      have f1 := k4 (j * 3 + 1)
      have j0 : (0 : Int) ≤ (j : Int) := by omega
      have j1 : (j : Int) < (xs.length : Int) := by omega
      clear hts HT hp hl hcle hset hszj hmk hK i1 i2 i3 hcs k4 hl2 hj2
      go_wp2_with (go_at_call 51; refine (markI_any p l 0 (K + 2) _ HO.out (by omega) (by omega)).mono ?_; rintro e w1 ⟨rfl, R1, G1⟩; have H1 := hide (HM.out w1 R1 G1); clear R1 G1)
      go_roundw
      case rel => exact ⟨j + 1, by omega, by go_num, by rw [HCS.out]; go_num, H1.out.1, H1.out.2⟩
      case measure => simp [intOf]; omega
    · have hjl : j = xs.length := by omega
      have HJ := hide hjl
      clear hjl
      go_wp2
      go_ret
      obtain ⟨ts2, hts⟩ := HT.out
      rw [HJ.out, mkd_all] at hts
      exact ⟨ts2, by rw [HJ.out, cnt_all]; rfl, hts, HC.out⟩
set_option maxRecDepth 100000 in
set_option maxHeartbeats 1600000 in
theorem markBlkS_any (v : Value) (ts : List V3) (xs : List Blk) (S : Nat → Prop) (k : Nat) (w : World) (h : GO KB w S v ts xs) (hk0 : 1 ≤ k) (hk : cnt szB k xs ≤ 100000000000000) :
    Calls Tryz.prog 66 #[v, .int .i64 k] w fun e w' => ∃ ts', e = .returned (.int .i64 (cnt szB k xs : Nat)) ∧ GO KB w' S v ts' (mkL szB mkB k xs) ∧ Chg S w w' := by
  have hlen : k + xs.length ≤ cnt szB k xs := cnt_len (fun x => by simp [szB]; omega) k xs
  obtain ⟨a1, c1, rfl⟩ := h.form
  have HG := hide h
  have HK := hide hk
  clear h
  go_enter Tryz.func66, Tryz.ntmps66
  go_wp2
  go_loopw [1, 5] (fun x i wr => ∃ j : Nat, j ≤ xs.length ∧ i = .int .i64 j ∧ x = .int .i64 (cnt szB k (xs.take j) : Nat) ∧ Hid (∃ ts, GO KB wr S (.slice a1 xs.length c1) ts (mkd szB mkB k j xs)) ∧ Hid (Chg S w wr)) (fun _ i _ => xs.length - (intOf i).toNat)
  case atStart => exact ⟨0, Nat.zero_le _, rfl, rfl, ⟨ts, by rw [mkd_zero]; exact HG.out⟩, Chg.refl _ _⟩
  case round =>
    obtain ⟨j, hj, rfl, rfl, HT, HC⟩ := hrel
    by_cases hlt : j < xs.length
    · obtain ⟨ts2, hts⟩ := HT.out
      have hl2 : ts2.length = xs.length := by rw [hts.len, mkd_length]
      have hj2 : j < ts2.length := by omega
      obtain ⟨g, c2, e1, k1, k2, k3, k4, k5, -⟩ := hts.row.at j hj2
      simp only [Value.slice.injEq] at e1
      obtain ⟨rfl, -, rfl⟩ := e1
      have hin := hts.inn j hj2 (by rw [mkd_length]; exact hlt)
      rw [mkd_at k j xs hlt] at hin
      obtain ⟨i1, i2, i3⟩ := hin
      obtain ⟨p, hp⟩ : ∃ p, ts2[j].2.1 = p := ⟨_, rfl⟩
      obtain ⟨l, hl⟩ : ∃ l, xs[j].2.1 = l := ⟨_, rfl⟩
      obtain ⟨t0, ht0⟩ : ∃ t, xs[j].2.2 = t := ⟨_, rfl⟩
      rw [i1] at k1
      rw [i3, ht0] at k3
      rw [hp] at k2 i2
      rw [hl] at i2
      have hcle := cnt_le (sz := szB) k xs j hlt
      have hcs := cnt_succ (sz := szB) k xs j hlt
      have hset := mkd_set (sz := szB) (mk := mkB) k j xs hlt
      have hszj : szB xs[j] = 2 + l.length * 2 := by rw [← hl]; rfl
      rw [hszj] at hcle hcs
      have hmk : ∀ K, mkB K xs[j] = (mk3 K, mkS (K + 1) l.length, mkT (K + 1 + l.length * 2)) := fun K => by rw [← hl]; rfl
      rw [hmk] at hset
      have hK2 := cnt_ge (sz := szB) k (xs.take j)
      obtain ⟨K, hK⟩ : ∃ K : Nat, cnt szB k (xs.take j) = K := ⟨_, rfl⟩
      rw [hK] at hcle hcs hset hK2 ⊢
      have hK1 : K + (2 + l.length * 2) ≤ 100000000000000 := Nat.le_trans hcle hk
      have HM : Hid (∀ w1 w2, SOwns w1 0 132 p (mkS (K + 1) l.length) → (wr.setCell ⟨g, j * 3, none⟩ (.bool ((K : Int) % 3 == 0))).grownBy w1 p.ownBlock → Below w1.heap.size w1 w2 → (∃ ts, GO KB (w2.setCell ⟨g, j * 3 + 2, none⟩ (.string (mkT (K + 1 + l.length * 2)))) S (.slice (some ⟨g, 0, none⟩) xs.length c1) ts (mkd szB mkB k (j + 1) xs)) ∧ Chg S w (w2.setCell ⟨g, j * 3 + 2, none⟩ (.string (mkT (K + 1 + l.length * 2))))) := fun w1 w2 hr hg hb => by
        rw [← mk3_int] at hg
        have := hts.markB rfl j hj2 (mk3 K) (mkT (K + 1 + l.length * 2)) (mkS (K + 1) l.length) (by rw [hp]; exact hr) (by rw [hp]; exact hg) hb
        rw [hset] at this
        exact ⟨⟨_, this.1⟩, HC.out.trans this.2⟩
      have hne : ∀ m, p.ownBlock = some m → m ≠ g := fun m hm e => hts.out j hj2 m (by rw [show KB.p ts2[j] = ts2[j].2.1 from rfl, hp]; exact hm) (by rw [e]; rfl)
      have HO : Hid (SOwns (wr.setCell ⟨g, j * 3, none⟩ (.bool ((K : Int) % 3 == 0))) 0 132 p l) := i2.of_heap fun m hm => heap_setCell_other _ ⟨g, j * 3, none⟩ m _ (by simpa using hne m hm)
      have hfr : wr.frozen? ⟨g, j * 3 + 2, none⟩ = false := k4 _
      have HX : Hid (∀ w1 w2, (wr.setCell ⟨g, j * 3, none⟩ (.bool ((K : Int) % 3 == 0))).grownBy w1 p.ownBlock → Below w1.heap.size w1 w2 → w2.cell? ⟨g, j * 3 + 2, none⟩ = some (.string t0) ∧ w2.frozen? ⟨g, j * 3 + 2, none⟩ = false) := fun w1 w2 hg hb => by
        have hgw : g < wr.heap.size := hts.row.lt g rfl
        have hsz1 : wr.heap.size ≤ w1.heap.size := by have := hg.size; simpa using this
        have eh : w2.heap[g]? = (wr.setCell ⟨g, j * 3, none⟩ (.bool ((K : Int) % 3 == 0))).heap[g]? := (hb.block g (by omega)).trans (hg.block g (by simpa using hgw) (fun e => hne g e.symm rfl))
        have hrow0 : TOwns wr KB.T (.slice (some ⟨g, 0, none⟩) ts2.length c1) ts2 := by rw [hl2]; exact hts.row
        have hrow := hrow0.set0 j hj2 (.bool ((K : Int) % 3 == 0))
        have hrow2 : TOwns w2 KB.T (.slice (some ⟨g, 0, none⟩) ts2.length c1) (ts2.set j (.bool ((K : Int) % 3 == 0), ts2[j].2.1, ts2[j].2.2)) := hrow.of_heap fun m hm => by
          have e : m = g := by simpa [Value.ownBlock] using hm.symm
          subst e
          exact eh
        obtain ⟨g', c', e', q1, q2, q3, q4, -⟩ := hrow2.at j (by simpa using hj2)
        simp only [Value.slice.injEq, Option.some.injEq, Addr.mk.injEq] at e'
        obtain ⟨⟨rfl, -⟩, -⟩ := e'
        simp only [List.getElem_set_self] at q3
        rw [i3, ht0] at q3
        exact ⟨q3, q4 _⟩
      have HCS := hide hcs
      have f0 := k4 (j * 3)
      have j0 : (0 : Int) ≤ (j : Int) := by omega
      have j1 : (j : Int) < (xs.length : Int) := by omega
      clear hts HT hp hl hcle hset hszj hmk hK i1 i2 i3 hcs k4 hl2 hj2 hne k3 hfr
      go_wp2_with (first | (go_at_call 85; refine (markS_any p l 0 (K + 1) _ HO.out (by omega) (by omega) (by omega)).mono ?_; rintro e w1 ⟨rfl, R1, G1⟩; have HR1 := hide R1; have HG1 := hide G1; clear R1 G1) | (go_at_call 67; refine (markText_any (K + 1 + l.length * 2) _ (by omega) (by omega)).mono ?_; rintro e w2 ⟨rfl, B2⟩; have H1 := hide (HM.out _ w2 HR1.out HG1.out B2); obtain ⟨y1, y2⟩ := HX.out _ w2 HG1.out B2; clear B2))
      go_roundw
      case rel => exact ⟨j + 1, by omega, by go_num, by rw [HCS.out]; go_num, H1.out.1, H1.out.2⟩
      case measure => simp [intOf]; omega
    · have hjl : j = xs.length := by omega
      have HJ := hide hjl
      clear hjl
      go_wp2
      go_ret
      obtain ⟨ts2, hts⟩ := HT.out
      rw [HJ.out, mkd_all] at hts
      exact ⟨ts2, by rw [HJ.out, cnt_all]; rfl, hts, HC.out⟩
set_option maxRecDepth 100000 in
set_option maxHeartbeats 1600000 in
theorem heldInoS_any (v : Value) (ts : List V3) (xs : List Ino) (S : Nat → Prop) (k : Nat) (w : World) (h : GO KI w S v ts (mkL szI mkI k xs)) (hk : cnt szI k xs ≤ 100000000000000) :
    Calls Tryz.prog 69 #[v, .int .i64 k] w fun e w' => e = .returned (.int .i64 (cnt szI k xs : Nat)) ∧ Below w.heap.size w w' := by
  have hlen : k + xs.length ≤ cnt szI k xs := cnt_len (fun x => by simp [szI]; omega) k xs
  obtain ⟨a1, c1, rfl⟩ := h.form
  rw [mkL_length] at *
  have HG := hide h
  have HK := hide hk
  clear h
  go_enter Tryz.func69, Tryz.ntmps69
  go_wp2
  go_loopw [1, 5] (fun x i wr => ∃ j : Nat, j ≤ xs.length ∧ i = .int .i64 j ∧ x = .int .i64 (cnt szI k (xs.take j) : Nat) ∧ Hid (Below w.heap.size w wr)) (fun _ i _ => xs.length - (intOf i).toNat)
  case atStart => exact ⟨0, Nat.zero_le _, rfl, rfl, Below.refl _ _⟩
  case round =>
    obtain ⟨j, hj, rfl, rfl, HC⟩ := hrel
    by_cases hlt : j < xs.length
    · have hts := HG.out.below HC.out (Nat.le_refl _)
      have hl2 : ts.length = xs.length := by rw [hts.len, mkL_length]
      have hj2 : j < ts.length := by omega
      obtain ⟨g, c2, e1, k1, k2, k3, k4, k5, -⟩ := hts.row.at j hj2
      simp only [Value.slice.injEq] at e1
      obtain ⟨rfl, -, rfl⟩ := e1
      have hin := hts.inn j hj2 (by rw [mkL_length]; exact hlt)
      rw [mkL_at k j xs hlt] at hin
      obtain ⟨i1, i2, i3⟩ := hin
      obtain ⟨p, hp⟩ : ∃ p, ts[j].2.2 = p := ⟨_, rfl⟩
      rw [i1] at k1
      rw [i2] at k2
      rw [hp] at k3 i3
      have hcle := cnt_le (sz := szI) k xs j hlt
      have hcs := cnt_succ (sz := szI) k xs j hlt
      obtain ⟨n, hn⟩ : ∃ n, xs[j].2.2.length = n := ⟨_, rfl⟩
      have hszj : szI xs[j] = 2 + n := by rw [← hn]; rfl
      rw [hszj] at hcle hcs
      obtain ⟨K, hK⟩ : ∃ K : Nat, cnt szI k (xs.take j) = K := ⟨_, rfl⟩
      rw [hK] at hcle hcs k1 k2 i3 ⊢
      have k1' : wr.cell? ⟨g, j * 3, none⟩ = some (.int .i64 (K : Int)) := k1
      have k2' : wr.cell? ⟨g, j * 3 + 1, none⟩ = some (.int .i64 ((K : Int) + 1)) := k2
      have i3' : ROwns wr 0 3 p (ic (marksI (K + 2) n)) := by rw [← hn]; exact i3
      have hK1 : K + (2 + n) ≤ 100000000000000 := Nat.le_trans hcle hk
      have HO := hide i3'
      have HCS := hide hcs
      have j0 : (0 : Int) ≤ (j : Int) := by omega
      have j1 : (j : Int) < (xs.length : Int) := by omega
      clear hts hp hcle hszj hK i1 i2 i3 i3' hcs k4 hl2 hj2 k1 k2 hn
      go_wp2_with (go_at_call 71; refine (heldI_any p n 0 (K + 2) _ HO.out (by omega) (by omega)).mono ?_; rintro e w1 ⟨rfl, B1⟩; have H1 := hide (HC.out.trans (B1.mono HC.out.size)); clear B1; have hK3 : ¬ (((K + 2 + n : Nat) : Int) < 0) := by omega)
      go_roundw
      case rel => exact ⟨j + 1, by omega, by go_num, by rw [HCS.out]; go_num, H1.out⟩
      case measure => simp [intOf]; omega
    · have hjl : j = xs.length := by omega
      have HJ := hide hjl
      clear hjl
      go_wp2
      go_ret
      exact ⟨by rw [HJ.out, cnt_all]; rfl, HC.out⟩
set_option maxRecDepth 100000 in
set_option maxHeartbeats 1600000 in
theorem heldBlkS_any (v : Value) (ts : List V3) (xs : List Blk) (S : Nat → Prop) (k : Nat) (w : World) (h : GO KB w S v ts (mkL szB mkB k xs)) (hk0 : 1 ≤ k) (hk : cnt szB k xs ≤ 100000000000000) :
    Calls Tryz.prog 70 #[v, .int .i64 k] w fun e w' => e = .returned (.int .i64 (cnt szB k xs : Nat)) ∧ Below w.heap.size w w' := by
  have hlen : k + xs.length ≤ cnt szB k xs := cnt_len (fun x => by simp [szB]; omega) k xs
  obtain ⟨a1, c1, rfl⟩ := h.form
  rw [mkL_length] at *
  have HG := hide h
  have HK := hide hk
  clear h
  go_enter Tryz.func70, Tryz.ntmps70
  go_wp2
  go_loopw [1, 5] (fun x i wr => ∃ j : Nat, j ≤ xs.length ∧ i = .int .i64 j ∧ x = .int .i64 (cnt szB k (xs.take j) : Nat) ∧ Hid (Below w.heap.size w wr)) (fun _ i _ => xs.length - (intOf i).toNat)
  case atStart => exact ⟨0, Nat.zero_le _, rfl, rfl, Below.refl _ _⟩
  case round =>
    obtain ⟨j, hj, rfl, rfl, HC⟩ := hrel
    by_cases hlt : j < xs.length
    · have hts := HG.out.below HC.out (Nat.le_refl _)
      have hl2 : ts.length = xs.length := by rw [hts.len, mkL_length]
      have hj2 : j < ts.length := by omega
      obtain ⟨g, c2, e1, k1, k2, k3, k4, k5, -⟩ := hts.row.at j hj2
      simp only [Value.slice.injEq] at e1
      obtain ⟨rfl, -, rfl⟩ := e1
      have hin := hts.inn j hj2 (by rw [mkL_length]; exact hlt)
      rw [mkL_at k j xs hlt] at hin
      obtain ⟨i1, i2, i3⟩ := hin
      obtain ⟨p, hp⟩ : ∃ p, ts[j].2.1 = p := ⟨_, rfl⟩
      rw [i1] at k1
      rw [i3] at k3
      rw [hp] at k2 i2
      have hcle := cnt_le (sz := szB) k xs j hlt
      have hcs := cnt_succ (sz := szB) k xs j hlt
      have hK2 := cnt_ge (sz := szB) k (xs.take j)
      obtain ⟨n, hn⟩ : ∃ n, xs[j].2.1.length = n := ⟨_, rfl⟩
      have hszj : szB xs[j] = 2 + n * 2 := by rw [← hn]; rfl
      rw [hszj] at hcle hcs
      obtain ⟨K, hK⟩ : ∃ K : Nat, cnt szB k (xs.take j) = K := ⟨_, rfl⟩
      rw [hK] at hcle hcs k1 k3 i2 hK2 ⊢
      have k1' : wr.cell? ⟨g, j * 3, none⟩ = some (.bool ((K : Int) % 3 == 0)) := by rw [← mk3_int]; exact k1
      have k3' : wr.cell? ⟨g, j * 3 + 2, none⟩ = some (.string (mkT (K + 1 + n * 2))) := by rw [← hn]; exact k3
      have i2' : SOwns wr 0 132 p (mkS (K + 1) n) := by rw [← hn]; exact i2
      have hK1 : K + (2 + n * 2) ≤ 100000000000000 := Nat.le_trans hcle hk
      have HO := hide i2'
      have HCS := hide hcs
      have HX : Hid (∀ w', Below wr.heap.size wr w' → w'.cell? ⟨g, j * 3 + 2, none⟩ = some (.string (mkT (K + 1 + n * 2)))) := fun w' hb => (hb.cell (p := ⟨g, j * 3 + 2, none⟩) k5).trans k3'
      have j0 : (0 : Int) ≤ (j : Int) := by omega
      have j1 : (j : Int) < (xs.length : Int) := by omega
      clear hts hp hcle hszj hK i1 i2 i3 i2' hcs k4 hl2 hj2 k1 k3 k3' hn
      go_wp2_with (go_at_call 86; refine (heldS_any p n 0 (K + 1) _ HO.out (by omega) (by omega) (by omega)).mono ?_; rintro e w1 ⟨rfl, B1⟩; have H1 := hide B1; clear B1; have hK3 : ¬ (((K + 1 + n * 2 : Nat) : Int) < 0) := by omega)
      have BB := H1.out.drew
      have y0 := HX.out _ H1.out
      have tt : ((mkT (K + 1 + n * 2)).toList == (mkT (K + 1 + n * 2)).toList) = true := by simp
      go_region_held3 (fun w' => w'.cell? ⟨g, j * 3 + 2, none⟩ = some (.string (mkT (K + 1 + n * 2)))) (first | exact HX.out _ BB | exact HX.out _ (BB.trans (B6.mono BB.size))) ((go_at_call 67; refine (markText_any (K + 1 + n * 2) _ (by omega) (by omega)).mono ?_; rintro e w6 ⟨rfl, B6⟩))
      have H6 := hide (HC.out.trans ((BB.trans (B6.mono BB.size)).mono HC.out.size))
      clear BB B6
      go_wp2
      go_roundw
      case rel => exact ⟨j + 1, by omega, by go_num, by rw [HCS.out]; go_num, H6.out⟩
      case measure => simp [intOf]; omega
    · have hjl : j = xs.length := by omega
      have HJ := hide hjl
      clear hjl
      go_wp2
      go_ret
      exact ⟨by rw [HJ.out, cnt_all]; rfl, HC.out⟩
end Go.Proofs.YtggjillpfclajaaGreat
