/- spec.DrawInodeText, spec.DrawReadInode and laws.sameInode by their contracts; what is written is read back. -/
import Derived.Test.YthgcidgdgileiaaAny
import Derived.Test.YthgcidgdgileiaaSpoilt
import Derived.Test.YthgcidgdgileiaaReadI
namespace Go.Proofs.Ythgcidgdgileiaa
open Go.RowKit Kit

set_option maxHeartbeats 1600000 in
theorem drawIT_any (w : World) (a : Option Addr) (len cap : Nat) (hcode : CodeIs w a len) (hlen : len ≤ 1048576) :
    Calls Try.prog 10 #[.slice a len cap] w fun e w' => ∃ (k l : Int) (xs : List Int) (v : Value), xs.length ≤ 2 ∧ e = .returned (.agg #[.int .i64 k, .int .i64 l, v]) ∧ RInts w' v xs ∧ Below w.heap.size w w' := by
  obtain ⟨W0, hW0⟩ : ∃ W0, w.alloc (Obj.cells #[.int .i64 0, .int .i64 0, .slice none 0 0] 26) = W0 := ⟨_, rfl⟩
  have hsz : W0.heap.size = w.heap.size + 1 := by rw [← hW0]; simp
  have B0 : Below w.heap.size w W0 := by rw [← hW0]; exact (Below.refl _ w).alloc (Nat.le_refl _) _
  have K0 : AtT 26 W0 w.heap.size 0 0 (.slice none 0 0) := by rw [← hW0]; exact AtT.new 26 w 0 0 _
  have HO := hide (code_below hcode B0)
  have HN := hide (new_any W0 a len cap HO.out hlen)
  have HW := hide hW0
  have HB0 := hide B0
  have HK0 := hide K0
  have HZ := hide hsz
  clear hcode hW0 B0 K0 hsz
  go_enter Try.func10, Try.ntmps10
  go_wp2_with fail
  rw [HW.out]
  refine HN.out.mono ?_
  rintro e w1 ⟨rfl, hcur, hlt⟩
  have HC := hide hcur
  clear hcur
  rw [HZ.out] at HC hlt ⊢
  go_wp2_with fail
  refine (any_any W0 w1 (w.heap.size + 1) a len cap HO.out hlen HC.out hlt).mono ?_
  rintro e w2 ⟨k, l, xs, v, hx, rfl, hR, hF, hD⟩
  obtain ⟨s2, t2, rfl⟩ := hR.form
  have B2 := hD.1.2.1
  have hz := HZ.out
  obtain ⟨q0, q1, q2, z0, z1, z2, m0⟩ := res_cells (w1 := w2) (b := w.heap.size) (HK0.out.below B2 (by omega))
  have b2 : Below w.heap.size w w2 := HB0.out.trans (B2.mono (by omega))
  have HB := hide b2
  have lw : w.heap.size < w1.heap.size := by omega
  have HR := hide (fun x y z => ints_set_other (j := 2) (ints_set_other (j := 1) (ints_set_other (j := 0) hR hF lw x) hF lw y) hF lw z)
  clear hR hD B2 b2 hz HC HN HO HW HK0 HB0 hF
  go_wp2
  refine bodyPost_ret (v := .agg #[.int .i64 k, .int .i64 l, .slice s2 xs.length t2]) (by simp [results, go_sem, q0, q1, q2]) rfl ⟨k, l, xs, _, hx, rfl, HR.out _ _ _, ?_⟩
  exact ((HB.out.setCell (Nat.le_refl _) _).setCell (Nat.le_refl _) _).setCell (Nat.le_refl _) _
/-- The bytes of a text of four. -/
theorem quad_of (t : ByteArray) (h : t.size = 4) : quadB (t[0]).toNat (t[1]).toNat (t[2]).toNat (t[3]).toNat = t := by
  obtain ⟨⟨l⟩⟩ := t
  match l, h with
  | [a, b, c, d], _ =>
    show (⟨#[UInt8.ofNat a.toNat, UInt8.ofNat b.toNat, UInt8.ofNat c.toNat, UInt8.ofNat d.toNat]⟩ : ByteArray) = ⟨#[a, b, c, d]⟩
    simp
theorem rd_text {t : ByteArray} {k l : Int} {xs : List Int} (h : Rd t true k l xs) : okL k l xs = true ∧ textL k l xs = t := by
  rcases h with ⟨h, hr, -⟩ | ⟨h, a, b, c, d, ha, hb, hc, hd, hok, rfl, rfl, rfl⟩
  · cases hr
  · have e : okL (a : Int) (b : Int) [(c : Int), (d : Int)] = true := hok
    refine ⟨e, ?_⟩
    show textL (a : Int) (b : Int) [(c : Int), (d : Int)] = t
    unfold textL
    rw [if_pos e]
    show quadB a b c d = t
    subst ha hb hc hd
    exact quad_of t h
theorem text_rd {k l : Int} {xs : List Int} (h : okL k l xs = true) : Rd (textL k l xs) true k l xs := by
  rcases two_or xs with ⟨p, q, rfl⟩ | h2
  · have hr : okR k l p q = true := h
    obtain ⟨hk, hl, hp, hq⟩ := okR_bounds hr
    obtain ⟨k, rfl⟩ := Int.eq_ofNat_of_zero_le hk.1
    obtain ⟨l, rfl⟩ := Int.eq_ofNat_of_zero_le hl.1
    obtain ⟨p, rfl⟩ := Int.eq_ofNat_of_zero_le hp.1
    obtain ⟨q, rfl⟩ := Int.eq_ofNat_of_zero_le hq.1
    have e1 : textL (k : Int) (l : Int) [(p : Int), (q : Int)] = quadB k l p q := by unfold textL; rw [if_pos h]; rfl
    rw [e1]
    have low : ∀ n : Nat, n ≤ 200 → (UInt8.ofNat n).toNat = n := fun n hn => by simp [UInt8.toNat_ofNat']; omega
    exact Rd.four (s := quadB k l p q) rfl k l p q (low k (by omega)) (low l (by omega)) (low p (by omega)) (low q (by omega)) true hr
  · rw [okL_other k l xs h2] at h
    cases h
theorem textL_size (k l : Int) (xs : List Int) : (textL k l xs).size ≤ 4 := by
  unfold textL
  split
  · exact Nat.le_refl 4
  · exact Nat.zero_le 4

set_option maxHeartbeats 800000 in
theorem sameN_same (k l : Int) (va vb : Value) (xs : List Int) (w : World) (ha : RInts w va xs) (hb : RInts w vb xs) (hl : xs.length ≤ 1000000000) :
    Calls Try.prog 17 #[.agg #[.int .i64 k, .int .i64 l, va], .agg #[.int .i64 k, .int .i64 l, vb]] w fun e w' => e = .returned (.bool true) ∧ Below w.heap.size w w' := by
  obtain ⟨a1, c1, rfl⟩ := ha.form
  obtain ⟨a2, c2, rfl⟩ := hb.form
  have HA := hide ha
  have HB := hide hb
  clear ha hb
  go_enter Try.func17, Try.ntmps17
  go_wp2_with fail
  refine (sameI_same _ _ xs _ ((HA.out.alloc _).alloc _) ((HB.out.alloc _).alloc _) hl).mono ?_
  rintro e w1 ⟨rfl, B1⟩
  have HB1 := hide B1
  clear B1
  go_wp2
  go_ret
  exact ⟨rfl, ((((Below.refl _ w).alloc (Nat.le_refl _) _).alloc (by simp) _).trans (HB1.out.mono (by simp; omega)))⟩

set_option maxHeartbeats 1600000 in
theorem drawRI_any (w : World) (a : Option Addr) (len cap : Nat) (hcode : CodeIs w a len) (hlen : len ≤ 1048576) :
    Calls Try.prog 13 #[.slice a len cap] w fun e w' => ∃ t : ByteArray, t.size ≤ 6000 ∧ e = .returned (.string t) ∧ Below w.heap.size w w' := by
  have HO := hide hcode
  clear hcode
  go_enter Try.func13, Try.ntmps13
  go_wp2_with fail
  refine (new_any w a len cap HO.out hlen).mono ?_
  rintro e w1 ⟨rfl, hcur, hlt⟩
  have HC := hide hcur
  clear hcur
  go_wp2_with fail
  refine (any_any w w1 _ a len cap HO.out hlen HC.out hlt).mono ?_
  rintro e w2 ⟨k, l, xs, v, hx, rfl, hR, hF, hD⟩
  have HR := hide hR
  have HD := hide hD
  clear hR hD hF
  go_wp2_with fail
  refine (specText_any k l xs v w2 HR.out).mono ?_
  rintro e w3 ⟨rfl, B3⟩
  have hts := textL_size k l xs
  generalize textL k l xs = t at *
  have HD3 := hide (HD.out.below hlt B3)
  have hlt3 : w.heap.size < w3.heap.size := by have := HD3.out.2.size; omega
  clear B3 HD HR HC
  go_wp2_with fail
  refine (once_any w w3 w.heap.size a len cap 3 HO.out hlen HD3.out.cur (by decide) (by decide)).mono ?_
  rintro e w4 ⟨x, rfl, D4⟩
  have HD4 := hide D4
  have hlt4 : w.heap.size < w4.heap.size := by have := D4.2.size; omega
  clear D4 HD3
  by_cases hx : x = 0
  · subst hx
    go_wp2_with fail
    refine (spoilt_any w w4 w.heap.size a len cap t HO.out hlen HD4.out.cur hlt4 (by omega)).mono ?_
    rintro e w5 ⟨u, hu, rfl, D5⟩
    have HD5 := hide D5
    clear D5
    go_wp2
    go_ret
    exact ⟨u, hu, rfl, HD5.out.cur.2.1⟩
  · have x0 : (x == 0) = false := by simpa using hx
    go_wp2
    go_ret
    exact ⟨t, by omega, rfl, HD4.out.cur.2.1⟩
end Go.Proofs.Ythgcidgdgileiaa
