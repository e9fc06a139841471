
/- laws.heldDepS by its contract. -/
import Derived.Test.YtggjillpfclajaaGreatMp
import Derived.Deep.RegionHeld3
namespace Go.Proofs.YtggjillpfclajaaGreat
open Go.RowKit Kit
set_option maxRecDepth 100000 in
set_option maxHeartbeats 3200000 in
theorem heldDepS_any (v : Value) (ts : List Row) (xs : List Dp) (S : Nat → Prop) (k : Nat) (w : World) (h : GN KDep w S v ts (mkL szDp mkDp k xs)) (hk : cnt szDp k xs ≤ 100000000000000) :
    Calls Tryz.prog 43 #[v, .int .i64 k] w fun e w' => e = .returned (.int .i64 (cnt szDp k xs : Nat)) ∧ Below w.heap.size w w' := by
  have hlen : k + xs.length ≤ cnt szDp k xs := cnt_len (fun x => by simp [szDp]; omega) k xs
  obtain ⟨a1, c1, rfl⟩ := h.form
  rw [mkL_length] at *
  have HG := hide h
  have HK := hide hk
  clear h
  go_enter Tryz.func43, Tryz.ntmps43
  go_wp2
  go_loopw [1, 5] (fun x i wr => ∃ j : Nat, j ≤ xs.length ∧ i = .int .i64 j ∧ x = .int .i64 (cnt szDp k (xs.take j) : Nat) ∧ Hid (Below w.heap.size w wr)) (fun _ i _ => xs.length - (intOf i).toNat)
  case atStart => exact ⟨0, Nat.zero_le _, rfl, rfl, Below.refl _ _⟩
  case round =>
    obtain ⟨j, hj, rfl, rfl, HC⟩ := hrel
    by_cases hlt : j < xs.length
    · have hl2 : ts.length = xs.length := by rw [HG.out.len, mkL_length]
      have hj2 : j < ts.length := by omega
      have hin := HG.out.inn j hj2 (by rw [mkL_length]; exact hlt)
      rw [mkL_at k j xs hlt] at hin
      obtain ⟨p, hrow, hO⟩ := hin
      obtain ⟨g, c2, e1, -, -, k5, -⟩ := HG.out.row.at j hj2
      simp only [Value.slice.injEq] at e1
      obtain ⟨rfl, -, rfl⟩ := e1
      have hcle := cnt_le (sz := szDp) k xs j hlt
      have hcs := cnt_succ (sz := szDp) k xs j hlt
      obtain ⟨n, hn⟩ : ∃ n, xs[j].bl.length = n := ⟨_, rfl⟩
      have hszj : szDp xs[j] = 10 + n := by rw [← hn]; rfl
      rw [hszj] at hcle hcs
      obtain ⟨K, hK⟩ : ∃ K : Nat, cnt szDp k (xs.take j) = K := ⟨_, rfl⟩
      rw [hK] at hcle hcs hrow hO ⊢
      have hK1 : K + (10 + n) ≤ 100000000000000 := Nat.le_trans hcle hk
      have hO2 : ROwns w 0 3 p (ic (marksI (K + 10) n)) := by rw [← hn]; exact hO
      obtain ⟨pa, pc, hpf⟩ := hO2.rints.form
      rw [marks_lengthI] at hpf
      subst hpf
      obtain ⟨d0, -⟩ := HG.out.row.deps j hj2 hrow rfl
      obtain ⟨z1, e1⟩ : ∃ z : Int, (K : Int) + 1 = z := ⟨_, rfl⟩
      obtain ⟨z2, e2⟩ : ∃ z : Int, z1 + 1 = z := ⟨_, rfl⟩
      obtain ⟨z3, e3⟩ : ∃ z : Int, z2 + 1 = z := ⟨_, rfl⟩
      obtain ⟨z4, e4⟩ : ∃ z : Int, z3 + 1 = z := ⟨_, rfl⟩
      obtain ⟨z5, e5⟩ : ∃ z : Int, z4 + 1 = z := ⟨_, rfl⟩
      obtain ⟨z6, e6⟩ : ∃ z : Int, z5 + 1 = z := ⟨_, rfl⟩
      obtain ⟨z7, e7⟩ : ∃ z : Int, z6 + 1 = z := ⟨_, rfl⟩
      obtain ⟨z8, e8⟩ : ∃ z : Int, z7 + 1 = z := ⟨_, rfl⟩
      obtain ⟨z9, e9⟩ : ∃ z : Int, z8 + 1 = z := ⟨_, rfl⟩
      obtain ⟨z10, e10⟩ : ∃ z : Int, z9 + 1 = z := ⟨_, rfl⟩
      have t1 : z1 = ((K + 1 : Nat) : Int) := by omega
      have t2 : z2 = ((K + 2 : Nat) : Int) := by omega
      have t3 : z3 = ((K + 3 : Nat) : Int) := by omega
      have t4 : z4 = ((K + 4 : Nat) : Int) := by omega
      have t5 : z5 = ((K + 5 : Nat) : Int) := by omega
      have t6 : z6 = ((K + 6 : Nat) : Int) := by omega
      have t7 : z7 = ((K + 7 : Nat) : Int) := by omega
      have t8 : z8 = ((K + 8 : Nat) : Int) := by omega
      have t9 : z9 = ((K + 9 : Nat) : Int) := by omega
      have t10 : z10 = ((K + 10 : Nat) : Int) := by omega
      have HS : Hid (∀ w', Below w.heap.size w w' → w'.cell? ⟨g, j * 11, none⟩ = some (.int .i64 (K : Int)) ∧ w'.cell? ⟨g, j * 11 + 1, none⟩ = some (.int .i64 z1) ∧ w'.cell? ⟨g, j * 11 + 2, none⟩ = some (.int .i64 z2) ∧ w'.cell? ⟨g, j * 11 + 3, none⟩ = some (.int .i64 z3) ∧ w'.cell? ⟨g, j * 11 + 4, none⟩ = some (.int .i64 z4) ∧ w'.cell? ⟨g, j * 11 + 5, none⟩ = some (.int .i64 z5) ∧ w'.cell? ⟨g, j * 11 + 6, none⟩ = some (.string (mkT z6.toNat)) ∧ w'.cell? ⟨g, j * 11 + 7, none⟩ = some (.bool (z7 % 3 == 0)) ∧ w'.cell? ⟨g, j * 11 + 8, none⟩ = some (.bool (z8 % 3 == 0)) ∧ w'.cell? ⟨g, j * 11 + 9, none⟩ = some (.int .i64 z9) ∧ w'.cell? ⟨g, j * 11 + 10, none⟩ = some (.slice pa n pc)) := fun w' hb => by
        have d1 := d0.below hb k5
        simp only [DCells, mkDp] at d1
        rw [mk3_toInt t7, mk3_toInt t8, t1, t2, t3, t4, t5, t6, t9, Int.toNat_natCast]
        exact d1
      have HO : Hid (∀ w', Below w.heap.size w w' → ROwns w' 0 3 (.slice pa n pc) (ic (marksI (K + 10) n))) := fun w' hb => hO2.below hb (Nat.le_refl _)
      have HCS := hide hcs
      have HZ10 := hide t10
      have j0 : (0 : Int) ≤ (j : Int) := by omega
      have j1 : (j : Int) < (xs.length : Int) := by omega
      have hsz := HC.out.size
      obtain ⟨r0, r1, r2, r3, r4, r5, r6, r7, r8, r9, r10⟩ := HS.out _ HC.out
      clear hcle hszj hK hrow hO hO2 hcs hl2 hj2 hn d0 t1 t2 t3 t4 t5 t6 t7 t8 t9 t10
      go_wp2_with fail
      go_region_held3 (fun w' => w'.cell? ⟨g, j * 11, none⟩ = some (.int .i64 (K : Int)) ∧ w'.cell? ⟨g, j * 11 + 1, none⟩ = some (.int .i64 z1) ∧ w'.cell? ⟨g, j * 11 + 2, none⟩ = some (.int .i64 z2) ∧ w'.cell? ⟨g, j * 11 + 3, none⟩ = some (.int .i64 z3) ∧ w'.cell? ⟨g, j * 11 + 4, none⟩ = some (.int .i64 z4) ∧ w'.cell? ⟨g, j * 11 + 5, none⟩ = some (.int .i64 z5) ∧ w'.cell? ⟨g, j * 11 + 6, none⟩ = some (.string (mkT z6.toNat)) ∧ w'.cell? ⟨g, j * 11 + 7, none⟩ = some (.bool (z7 % 3 == 0)) ∧ w'.cell? ⟨g, j * 11 + 8, none⟩ = some (.bool (z8 % 3 == 0)) ∧ w'.cell? ⟨g, j * 11 + 9, none⟩ = some (.int .i64 z9) ∧ w'.cell? ⟨g, j * 11 + 10, none⟩ = some (.slice pa n pc)) (first | exact HS.out _ HC.out.drew | exact HS.out _ (HC.out.trans ((of_drew B6).mono hsz))) ((go_at_call 67; refine (markText_int z6 _ (by omega) (by omega)).mono ?_; rintro e w6 ⟨rfl, B6⟩))
      have HB2 := hide (HC.out.trans ((of_drew B6).mono hsz))
      clear B6 r0 r1 r2 r3 r4 r5 r6 r7 r8 r9 r10
      obtain ⟨-, -, -, -, -, -, -, r7, r8, r9, r10⟩ := HS.out _ HB2.out
      go_wp2_with (go_at_call 71; rw [HZ10.out]; refine (heldI_any _ n 0 (K + 10) _ (HO.out _ HB2.out) (by omega) (by omega)).mono ?_; rintro e w7 ⟨rfl, B7⟩; have H1 := hide (HB2.out.trans (B7.mono HB2.out.size)); clear B7; have hK3 : ¬ (((K + 10 + n : Nat) : Int) < 0) := by omega)
      go_roundw
      case rel => exact ⟨j + 1, by omega, by go_num, by rw [HCS.out]; go_num, H1.out⟩
      case measure => simp [intOf]; omega
    · have hjl : j = xs.length := by omega
      have HJ := hide hjl
      clear hjl
      go_wp2
      go_ret
      exact ⟨by rw [HJ.out, cnt_all]; rfl, HC.out⟩
end Go.Proofs.YtggjillpfclajaaGreat
