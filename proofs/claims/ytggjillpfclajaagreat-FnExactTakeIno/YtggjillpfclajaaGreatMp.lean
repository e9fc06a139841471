
/- laws.markDepS and laws.heldDepS by their contracts. -/
import Derived.Test.YtggjillpfclajaaGreatDm
import Derived.Test.YtggjillpfclajaaGreatMd
namespace Go.Proofs.YtggjillpfclajaaGreat
open Go.RowKit Kit
theorem mk3_toInt {z : Int} {k : Nat} (h : z = (k : Int)) : (z % 3 == 0) = mk3 k := by rw [h, mk3_int]
set_option maxRecDepth 100000 in
set_option maxHeartbeats 3200000 in
theorem markDepS_any (v : Value) (ts : List Row) (xs : List Dp) (S : Nat → Prop) (k : Nat) (w : World) (h : GN KDep w S v ts xs) (hk : cnt szDp k xs ≤ 100000000000000) :
    Calls Tryz.prog 40 #[v, .int .i64 k] w fun e w' => ∃ ts', e = .returned (.int .i64 (cnt szDp k xs : Nat)) ∧ GN KDep w' S v ts' (mkL szDp mkDp k xs) ∧ Chg S w w' := by
  have hlen : k + xs.length ≤ cnt szDp k xs := cnt_len (fun x => by simp [szDp]; omega) k xs
  obtain ⟨a1, c1, rfl⟩ := h.form
  have HG := hide h
  have HK := hide hk
  clear h
  go_enter Tryz.func40, Tryz.ntmps40
  go_wp2
  go_loopw [1, 5] (fun x i wr => ∃ j : Nat, j ≤ xs.length ∧ i = .int .i64 j ∧ x = .int .i64 (cnt szDp k (xs.take j) : Nat) ∧ Hid (∃ ts, GN KDep wr S (.slice a1 xs.length c1) ts (mkd szDp mkDp k j xs)) ∧ Hid (Chg S w wr)) (fun _ i _ => xs.length - (intOf i).toNat)
  case atStart => exact ⟨0, Nat.zero_le _, rfl, rfl, ⟨ts, by rw [mkd_zero]; exact HG.out⟩, Chg.refl _ _⟩
  case round =>
    obtain ⟨j, hj, rfl, rfl, HT, HC⟩ := hrel
    by_cases hlt : j < xs.length
    · obtain ⟨ts2, hts⟩ := HT.out
      have hl2 : ts2.length = xs.length := by rw [hts.len, mkd_length]
      have hj2 : j < ts2.length := by omega
      have hin := hts.inn j hj2 (by rw [mkd_length]; exact hlt)
      rw [mkd_at k j xs hlt] at hin
      obtain ⟨p, hrow, hO⟩ := hin
      obtain ⟨g, c2, e1, -, -, k5, -⟩ := hts.row.at j hj2
      simp only [Value.slice.injEq] at e1
      obtain ⟨rfl, -, rfl⟩ := e1
      have hcle := cnt_le (sz := szDp) k xs j hlt
      have hcs := cnt_succ (sz := szDp) k xs j hlt
      have hset := mkd_set (sz := szDp) (mk := mkDp) k j xs hlt
      obtain ⟨X, hX⟩ : ∃ X, xs[j] = X := ⟨_, rfl⟩
      rw [hX] at hrow hO hcle hcs hset
      obtain ⟨id, kd, io, pt, bk, sl, nm, bt, ot, af, bl⟩ := X
      simp only at hO
      obtain ⟨pa, pc, rfl⟩ := hO.rints.form
      obtain ⟨d0, fz⟩ := hts.row.deps j hj2 hrow rfl
      simp only [DCells] at d0
      obtain ⟨k0, k1, k2, k3, k4, k5', -⟩ := d0
      obtain ⟨K, hK⟩ : ∃ K : Nat, cnt szDp k (xs.take j) = K := ⟨_, rfl⟩
      rw [hK] at hcle hcs hset ⊢
      simp only [szDp] at hcle hcs
      have hK1 : K + (10 + bl.length) ≤ 100000000000000 := Nat.le_trans hcle hk
      obtain ⟨z1, e1⟩ : ∃ z : Int, (K : Int) + 1 = z := ⟨_, rfl⟩
      obtain ⟨z2, e2⟩ : ∃ z : Int, z1 + 1 = z := ⟨_, rfl⟩
      obtain ⟨z3, e3⟩ : ∃ z : Int, z2 + 1 = z := ⟨_, rfl⟩
      obtain ⟨z4, e4⟩ : ∃ z : Int, z3 + 1 = z := ⟨_, rfl⟩
      obtain ⟨z5, e5⟩ : ∃ z : Int, z4 + 1 = z := ⟨_, rfl⟩
      obtain ⟨z6, e6⟩ : ∃ z : Int, z5 + 1 = z := ⟨_, rfl⟩
      obtain ⟨z7, e7⟩ : ∃ z : Int, z6 + 1 = z := ⟨_, rfl⟩
      obtain ⟨z8, e8⟩ : ∃ z : Int, z7 + 1 = z := ⟨_, rfl⟩
      obtain ⟨z9, e9⟩ : ∃ z : Int, z8 + 1 = z := ⟨_, rfl⟩
      obtain ⟨z10, e10⟩ : ∃ z : Int, z9 + 1 = z := ⟨_, rfl⟩
      have t1 : z1 = ((K + 1 : Nat) : Int) := by omega
      have t2 : z2 = ((K + 2 : Nat) : Int) := by omega
      have t3 : z3 = ((K + 3 : Nat) : Int) := by omega
      have t4 : z4 = ((K + 4 : Nat) : Int) := by omega
      have t5 : z5 = ((K + 5 : Nat) : Int) := by omega
      have t6 : z6 = ((K + 6 : Nat) : Int) := by omega
      have t7 : z7 = ((K + 7 : Nat) : Int) := by omega
      have t8 : z8 = ((K + 8 : Nat) : Int) := by omega
      have t9 : z9 = ((K + 9 : Nat) : Int) := by omega
      have t10 : z10 = ((K + 10 : Nat) : Int) := by omega
      have HM : Hid (∀ w2, Below ((((((wr.setCell ⟨g, j * 11, none⟩ (.int .i64 (K : Int))).setCell ⟨g, j * 11 + 1, none⟩ (.int .i64 z1)).setCell ⟨g, j * 11 + 2, none⟩ (.int .i64 z2)).setCell ⟨g, j * 11 + 3, none⟩ (.int .i64 z3)).setCell ⟨g, j * 11 + 4, none⟩ (.int .i64 z4)).setCell ⟨g, j * 11 + 5, none⟩ (.int .i64 z5)).heap.size ((((((wr.setCell ⟨g, j * 11, none⟩ (.int .i64 (K : Int))).setCell ⟨g, j * 11 + 1, none⟩ (.int .i64 z1)).setCell ⟨g, j * 11 + 2, none⟩ (.int .i64 z2)).setCell ⟨g, j * 11 + 3, none⟩ (.int .i64 z3)).setCell ⟨g, j * 11 + 4, none⟩ (.int .i64 z4)).setCell ⟨g, j * 11 + 5, none⟩ (.int .i64 z5)) w2 → (w2.cell? ⟨g, j * 11 + 6, none⟩ = some (.string nm) ∧ w2.cell? ⟨g, j * 11 + 7, none⟩ = some (.bool bt) ∧ w2.cell? ⟨g, j * 11 + 8, none⟩ = some (.bool ot) ∧ w2.cell? ⟨g, j * 11 + 9, none⟩ = some (.int .i64 af) ∧ w2.cell? ⟨g, j * 11 + 10, none⟩ = some (.slice pa bl.length pc) ∧ (∀ i, w2.frozen? ⟨g, i, none⟩ = false)) ∧ ROwns ((((w2.setCell ⟨g, j * 11 + 6, none⟩ (.string (mkT z6.toNat))).setCell ⟨g, j * 11 + 7, none⟩ (.bool ((z7 % 3) == 0))).setCell ⟨g, j * 11 + 8, none⟩ (.bool ((z8 % 3) == 0))).setCell ⟨g, j * 11 + 9, none⟩ (.int .i64 z9)) 0 3 (.slice pa bl.length pc) (ic bl) ∧ ∀ w4, ROwns w4 0 3 (.slice pa bl.length pc) (ic (marksI (K + 10) bl.length)) → ((((w2.setCell ⟨g, j * 11 + 6, none⟩ (.string (mkT z6.toNat))).setCell ⟨g, j * 11 + 7, none⟩ (.bool ((z7 % 3) == 0))).setCell ⟨g, j * 11 + 8, none⟩ (.bool ((z8 % 3) == 0))).setCell ⟨g, j * 11 + 9, none⟩ (.int .i64 z9)).grownBy w4 (Value.slice pa bl.length pc).ownBlock → (∃ ts, GN KDep w4 S (.slice (some ⟨g, 0, none⟩) xs.length c1) ts (mkd szDp mkDp k (j + 1) xs)) ∧ Chg S w w4) := fun w2 hb => by
        obtain ⟨q1, q2, q3⟩ := hts.markD rfl j hj2 hrow (K : Int) z1 z2 z3 z4 z5 hb
        obtain ⟨-, -, -, -, -, -, y6, y7, y8, y9, y10⟩ := q1
        obtain ⟨q4, q5⟩ := q3 (mkT z6.toNat) (z7 % 3 == 0) (z8 % 3 == 0) z9 bl (marksI (K + 10) bl.length) hO
        refine ⟨⟨y6, y7, y8, y9, y10, q2⟩, q4, fun w4 hr hg => ?_⟩
        obtain ⟨r1, r2⟩ := q5 w4 hr hg
        rw [show (⟨(K : Int), z1, z2, z3, z4, z5, mkT z6.toNat, z7 % 3 == 0, z8 % 3 == 0, z9, marksI (K + 10) bl.length⟩ : Dp) = mkDp K ⟨id, kd, io, pt, bk, sl, nm, bt, ot, af, bl⟩ by
          rw [mk3_toInt t7, mk3_toInt t8, t1, t2, t3, t4, t5, t6, t9, Int.toNat_natCast]; rfl, hset] at r1
        exact ⟨⟨_, r1⟩, HC.out.trans r2⟩
      have HCS := hide hcs
      have HZ10 := hide t10
      have f0 := fz (j * 11)
      have f1 := fz (j * 11 + 1)
      have f2 := fz (j * 11 + 2)
      have f3 := fz (j * 11 + 3)
      have f4 := fz (j * 11 + 4)
      have f5 := fz (j * 11 + 5)
      have j0 : (0 : Int) ≤ (j : Int) := by omega
      have j1 : (j : Int) < (xs.length : Int) := by omega
      clear hts HT hcle hset hK hrow hO hcs fz hl2 hj2 hX t1 t2 t3 t4 t5 t6 t7 t8 t9 t10
      go_wp2_with (first | (go_at_call 67; refine (markText_int _ _ (by omega) (by omega)).mono ?_; rintro e w2 ⟨rfl, B2⟩; obtain ⟨⟨y6, y7, y8, y9, y10, yf⟩, HO', HW'⟩ := HM.out w2 B2; have HO := hide HO'; have HW := hide HW'; have u6 := yf (j * 11 + 6); have u7 := yf (j * 11 + 7); have u8 := yf (j * 11 + 8); have u9 := yf (j * 11 + 9); clear B2 yf HO' HW') | (go_at_call 51; rw [HZ10.out]; refine (markI_any _ bl 0 (K + 10) _ HO.out (by omega) (by omega)).mono ?_; rintro e w4 ⟨rfl, R4, G4⟩; have H1 := hide (HW.out w4 R4 G4); clear R4 G4))
      go_roundw
      case rel => exact ⟨j + 1, by omega, by go_num, by rw [HCS.out]; go_num, H1.out.1, H1.out.2⟩
      case measure => simp [intOf]; omega
    · have hjl : j = xs.length := by omega
      have HJ := hide hjl
      clear hjl
      go_wp2
      go_ret
      obtain ⟨ts2, hts⟩ := HT.out
      rw [HJ.out, mkd_all] at hts
      exact ⟨ts2, by rw [HJ.out, cnt_all]; rfl, hts, HC.out⟩
end Go.Proofs.YtggjillpfclajaaGreat
