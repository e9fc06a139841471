
/- spec.BlockOk at four slots by its contract. -/
import Derived.Test.YtajollmmpdkhbaaCom
import Derived.Test.YtajollmmpdkhbaaKOk
namespace Go.Proofs.Ytajollmmpdkhbaa
open Go.RowKit Kit
set_option maxRecDepth 100000 in
set_option maxHeartbeats 3200000 in
theorem specOk_four (v : Value) (t0 : ByteArray) (xs : List Sl) (w : World) (hv : RSl w v xs) (hl : xs.length = 4) (ht0 : t0.size = 0) (hbig : ∀ (j : Nat) (h : j < xs.length), xs[j].1.size ≤ 1048576) :
    Calls Try.prog 38 #[.agg #[.bool true, v, .string t0]] w fun e w' => e = .returned (.bool (slotsOk xs)) ∧ Below w.heap.size w w' := by
  have HV := hide hv
  have HG := hide hbig
  obtain ⟨a, c, rfl, hcap, hc⟩ := hv
  have HC := hide hc
  have HL := hide hl
  clear hc hbig
  have HR := hide (ok_start hl)
  obtain ⟨R, hR⟩ : ∃ R, slotsOk xs = R := ⟨_, rfl⟩
  rw [hR] at HR ⊢
  rw [hl] at HV hcap ⊢
  have he0 := emp_true ht0
  clear hR hl ht0
  go_enter Try.func38, Try.ntmps38
  go_wp2
  go_loopw [3, 4, 5] (fun i _ _ wr => ∃ j : Nat, j ≤ 4 ∧ i = .int .i64 j ∧ Hid (R = okF (xs.take j) (xs.drop j)) ∧ Below w.heap.size w wr ∧ AtC wr w.heap.size 65 #[.bool true, .slice a 4 c, .string t0]) (fun i _ _ _ => 4 - (intOf i).toNat)
  case atStart => exact ⟨0, Nat.zero_le _, rfl, HR, (Below.refl _ w).alloc (Nat.le_refl _) _, AtC.new w 65 _⟩
  case round =>
    obtain ⟨j, hj, rfl, HP, hb, hat⟩ := hrel
    obtain ⟨b0, b1, b2, hbl⟩ := hat.three
    by_cases hlt : j < 4
    · have hlx : j < xs.length := by rw [HL.out]; exact hlt
      obtain ⟨g, off, rfl, hg, k1, k2⟩ := HC.out j hlx
      have q1 := (hb.cell (p := ⟨g, off + j * 2, none⟩) hg).trans k1
      have q2 := (hb.cell (p := ⟨g, off + j * 2 + 1, none⟩) hg).trans k2
      have hsz := hb.size
      have j0 : (0 : Int) ≤ (j : Int) := by omega
      have j1 : (j : Int) < 4 := by omega
      have C1 := hide (fun W => specName_any xs[j].1 W (HG.out j hlx))
      have HBAD := hide (ok_bad hlx HP.out)
      have HTW := hide (ok_twice hlx HP.out)
      have HNX := hide (ok_next hlx HP.out)
      obtain ⟨t, ht⟩ : ∃ t, xs[j].1 = t := ⟨_, rfl⟩
      obtain ⟨z, hz⟩ : ∃ z, xs[j].2 = z := ⟨_, rfl⟩
      have e1 : xs[j] = (t, z) := by rw [← ht, ← hz]
      rw [e1] at HBAD HNX HTW
      rw [ht] at q1 C1
      rw [hz] at q2
      have HAT := hide hat
      have HB := hide hb
      clear k1 k2 ht hz e1 hb HP hlx hat
      by_cases hA : t.size = 0 ∧ z = 0
      · obtain ⟨hA, rfl⟩ := hA
        have he := emp_true hA
        have HQ := hide (HNX.out (slotOk_true (.inl ⟨hA, rfl⟩)).symm (by rw [placeR_empty _ hA]; decide))
        clear hA
        go_wp2
        go_roundw
        case rel => exact ⟨j + 1, by omega, by go_num, HQ, HB.out.alloc hsz _, HAT.out.alloc _⟩
        case measure => simp [intOf]; omega
      · have HA := hide hA
        obtain ⟨n, hn⟩ : ∃ n, nameOk t = n := ⟨_, rfl⟩
        rw [hn] at C1
        have HN := hide hn
        have HE : Hid (∀ (P : Prop) [Decidable P], True) := fun _ => trivial
        have hAN := HAT.out.alloc (.cells #[.string t, .int .i64 z] 94)
        have hBW := HB.out.alloc hsz (.cells #[.string t, .int .i64 z] 94)
        have hSW := AtC.new wr 94 #[.string t, .int .i64 z]
        have HAN := hide hAN
        have HBW := hide hBW
        have HSW := hide hSW
        clear hn hAN hBW hSW HE
        by_cases hG : n = true ∧ 1 ≤ z ∧ z ≤ 8
        · obtain ⟨rfl, z1, z8⟩ := hG
          have hs1 : 1 ≤ t.size := (nameOk_size HN.out).1
          have he := emp_false (s := t) (by omega)
          have zz : (z == 0) = false := by simp; omega
          have hin : inB z 1 8 = true := by simp [inB, z1, z8]
          have HSO := hide (slotOk_true (t := t) (z := z) (.inr ⟨HN.out, z1, z8⟩)).symm
          have HNX2 := hide (HNX.out HSO.out)
          have HPS := hide (placeR_start (xs.take j) (name := t) (by omega))
          obtain ⟨r2, hr2⟩ : ∃ r, placeR (xs.take j) t = r := ⟨_, rfl⟩
          simp only [hr2] at HNX2 HTW HPS
          clear hr2 hA HNX HBAD
          go_wp2_with (first | (go_at_call 71; refine (C1.out _).mono ?_; rintro e w1 ⟨rfl, B1⟩; obtain ⟨s0, s1, sl⟩ := (HSW.out.over B1).two; obtain ⟨d0, d1, d2, dl⟩ := (HAN.out.over B1).three) | (go_at_call 45; refine (l01In_any _ _ _ _).mono ?_; rintro e w1 ⟨rfl, rfl⟩))
          have hB1 : Below w.heap.size w w1 := HBW.out.trans (B1.mono (by simp; omega))
          have HB1 := hide hB1
          have hA1 := HAN.out.over B1
          have HA1 := hide hA1
          clear hB1 hA1 B1 b0 b1 b2
          go_loopw [5] (fun i wz => ∃ k : Nat, k ≤ j ∧ i = .int .i64 k ∧ Hid (r2 = plF t k ((xs.take j).drop k)) ∧ ∃ q, wz = w1.drewN q) (fun i _ => j - (intOf i).toNat)
          case atStart => exact ⟨0, Nat.zero_le _, rfl, HPS, 0, rfl⟩
          case round =>
            obtain ⟨k, hk, rfl, HK, q, rfl⟩ := hrel
            by_cases hkj : k < j
            · have hkx : k < xs.length := by rw [HL.out]; omega
              obtain ⟨g', off', e', hg', m1, m2⟩ := HC.out k hkx
              simp only [Option.some.injEq, Addr.mk.injEq] at e'
              obtain ⟨rfl, rfl, -⟩ := e'
              have n1 := (HB1.out.cell (p := ⟨g, off + k * 2, none⟩) hg).trans m1
              have hjx : j < xs.length := by rw [HL.out]; exact hlt
              have HIT := hide (pl_hit' hkj hjx HK.out)
              have NXT := hide (pl_next' hkj hjx HK.out)
              obtain ⟨t2, ht2⟩ : ∃ t, xs[k].1 = t := ⟨_, rfl⟩
              rw [ht2] at n1 HIT NXT
              clear m1 m2 ht2 hjx hkx q1 q2
              have k0 : (0 : Int) ≤ (k : Int) := by omega
              have k1 : (k : Int) < 4 := by omega
              by_cases hq : t2 = t
              · have c1 := beq_true hq
                have HQ := hide (HTW.out (by have := HIT.out hq; omega))
                clear hq
                go_wp2
                go_quiet (fail)
                go_wp2
                go_ret
                exact ⟨ret_bool HQ.out.symm, below_drewN (below_drewN HB1.out _) _⟩
              · have c1 := beq_false hq
                have HQ := hide (NXT.out hq)
                clear hq
                go_wp2
                go_quiet (fail)
                go_wp2
                go_roundw
                case rel => exact ⟨k + 1, by omega, by go_num, HQ, _, rfl⟩
                case measure => simp [intOf]; omega
            · have HQ := hide (HNX2.out (by have := pl_end' (by omega) HK.out; omega))
              clear q1 q2
              go_wp2
              go_roundw
              case rel => exact ⟨j + 1, by omega, by go_num, HQ, below_drewN HB1.out _, HA1.out⟩
              case measure => simp [intOf]; omega
        · have HQ := hide (HBAD.out (slotOk_false (t := t) (z := z) (by rintro (h | h); exact HA.out h; exact hG ⟨by rw [← HN.out]; exact h.1, h.2⟩)).symm)
          have hE : (t.size = 0 ∧ (z == 0) = false) ∨ 0 < t.size := by
            by_cases h : t.size = 0
            · left; exact ⟨h, by simp; intro hz; exact HA.out ⟨h, hz⟩⟩
            · right; omega
          have hin : n = true → inB z 1 8 = false := fun h => by simp [inB]; intro h1; have := hG; simp [h] at this; omega
          have HI := hide hin
          have HEE := hide hE
          clear hin hE hA hG HBAD HNX HTW
          cases n with
          | false =>
            rcases HEE.out with ⟨h0, hz⟩ | h0
            · have he := emp_true h0
              clear h0
              go_wp2_with (first | (go_at_call 71; refine (C1.out _).mono ?_; rintro e w1 ⟨rfl, B1⟩))
              go_ret
              exact ⟨ret_bool HQ.out.symm, HBW.out.trans (B1.mono (by simp; omega))⟩
            · have he := emp_false h0
              clear h0
              go_wp2_with (first | (go_at_call 71; refine (C1.out _).mono ?_; rintro e w1 ⟨rfl, B1⟩))
              go_ret
              exact ⟨ret_bool HQ.out.symm, HBW.out.trans (B1.mono (by simp; omega))⟩
          | true =>
            have hin := HI.out rfl
            have hs1 : 1 ≤ t.size := (nameOk_size HN.out).1
            have he := emp_false (s := t) (by omega)
            go_wp2_with (first | (go_at_call 71; refine (C1.out _).mono ?_; rintro e w1 ⟨rfl, B1⟩; obtain ⟨s0, s1, sl⟩ := (HSW.out.over B1).two) | (go_at_call 45; refine (l01In_any _ _ _ _).mono ?_; rintro e w1 ⟨rfl, rfl⟩))
            go_ret
            exact ⟨ret_bool HQ.out.symm, HBW.out.trans (B1.mono (by simp; omega))⟩
    · have HH := hide (ok_end (by rw [HL.out]; omega) HP.out)
      have HB := hide hb
      clear hb hat
      go_wp2
      go_ret
      exact ⟨ret_bool HH.out.symm, HB.out⟩
theorem specOk_anyK (d : Bool) (v : Value) (t : ByteArray) (xs : List Sl) (w : World) (hv : RSl w v xs) (hbig : ∀ (j : Nat) (h : j < xs.length), xs[j].1.size ≤ 1048576) :
    Calls Try.prog 38 #[.agg #[.bool d, v, .string t]] w fun e w' => e = .returned (.bool (blockOk d xs t)) ∧ Below w.heap.size w w' := by
  by_cases h : d = false ∨ xs.length ≠ 4 ∨ t.size ≠ 0
  · exact specOk_plain d v t xs w hv h
  · simp only [not_or, Bool.not_eq_false, Decidable.not_not, ne_eq] at h
    obtain ⟨rfl, h4, h0⟩ := h
    rw [blockOk_dir xs t h0]
    exact specOk_four v t xs w hv h4 h0 hbig
end Go.Proofs.Ytajollmmpdkhbaa
