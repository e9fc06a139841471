/- spec.l01Figure, spec.Decimal (from 0 on), spec.ReadDecimal and impl.ReadDecimal by their contracts. -/
import Derived.Test.YthfiaihbpnlbjaaDoorRows
import Derived.Test.YthfiaihbpnlbjaaDoorKitB
import Derived.WalkMore
import Derived.Test.YthfiaihbpnlbjaaDoorDec
namespace Go.Proofs.YthfiaihbpnlbjaaDoor
open Go.RowKit Kit
theorem dropC (s : ByteArray) (k : Nat) (h : k < s.size) : s.data.toList.drop k = s[k] :: s.data.toList.drop (k + 1) := by
  rw [List.drop_eq_getElem_cons (by simpa using h)]
  rfl

theorem figure_any (x : Nat) (w : World) (h : x < 16) :
    Calls Tryd.prog 45 #[.int .i64 x] w fun e w' => e = .returned (.int .u8 ((figB x).toNat : Int)) ∧ w = w' := by
  by_cases h1 : x < 10
  · have HV := hide (figB_lo x h1)
    go_enter Tryd.func45, Tryd.ntmps45
    go_wp2
    go_ret
    exact ⟨by rw [HV.out]; rfl, rfl⟩
  · have HV := hide (figB_hi x h1 h)
    go_enter Tryd.func45, Tryd.ntmps45
    go_wp2
    go_ret
    exact ⟨by rw [HV.out]; simp; omega, rfl⟩

/-- One byte as a string. -/
def oneB (b : UInt8) : ByteArray := ⟨#[b]⟩
theorem conv_one (b : UInt8) (W : World) : (convert 54 9 (.slice (some ⟨W.heap.size, 0, none⟩) 1 1)).run Tryd.prog (W.alloc (.cells #[.int .u8 (b.toNat : Int)] 5)) = .ok (.string (oneB b)) (W.alloc (.cells #[.int .u8 (b.toNat : Int)] 5)) :=
  conv_own (P := Tryd.prog) 54 9 5 Tryd.underlying54 Tryd.underlying5 Tryd.underlying9 (base := 0) (l := [b]) (World.ownsRow_lit W #[.int .u8 (b.toNat : Int)] 1 (Nat.zero_le _) (by unfold maxLen; omega) rfl)
theorem oneB_size (b : UInt8) : (oneB b).size = 1 := rfl
/-- The rest of the figures, as a string. -/
def accB (l : List UInt8) : ByteArray := ⟨l.toArray⟩
theorem accB_cons (b : UInt8) (l : List UInt8) : oneB b ++ accB l = accB (b :: l) := by
  unfold oneB accB
  rw [show (⟨#[b]⟩ : ByteArray) = ⟨[b].toArray⟩ from rfl, ByteArray.mk_append_mk]
  simp
theorem accB_size (l : List UInt8) : (accB l).size = l.length := by simp [accB, ByteArray.size]

theorem dec_step {n f m : Nat} {acc : List UInt8} (h : decF 20 n = decF (f + 1) m ++ acc) (hm : m ≠ 0) : decF 20 n = decF f (m / 10) ++ (figB (m % 10) :: acc) := by
  rw [h, decF_pos f m hm]; simp

set_option maxRecDepth 100000 in
set_option maxHeartbeats 800000 in
theorem decimal_pos (n : Nat) (w : World) (h0 : n ≠ 0) (h1 : n ≤ 1000000000) :
    Calls Tryd.prog 35 #[.int .i64 n] w fun e w' => e = .returned (.string (accB (dec n))) ∧ Below w.heap.size w w' := by
  have HD := hide (show dec n = decF 20 n by simp [dec, h0])
  have b0 : ((n : Int) == 0) = false := by simp; omega
  have b1 : decide ((n : Int) < 0) = false := by simp
  go_enter Tryd.func35, Tryd.ntmps35
  go_wp2
  go_loopw [0, 4] (fun x t wr => ∃ (f m : Nat) (acc : List UInt8), x = .int .i64 m ∧ m ≤ 1000000000 ∧ m < 10 ^ f ∧ acc.length + f = 20 ∧ Hid (decF 20 n = decF f m ++ acc) ∧ t = .string (accB acc) ∧ Below w.heap.size w wr) (fun x _ _ => (intOf x).toNat)
  case atStart => exact ⟨20, n, [], rfl, h1, by omega, rfl, hide (by simp), rfl, Below.refl _ _⟩
  case round =>
    obtain ⟨f, m, acc, rfl, hm, hf, hl, HE, rfl, hb⟩ := hrel
    have hsz := hb.size
    have hz := accB_size acc
    have hz1 : (accB acc).size ≤ 20 := by omega
    clear hz
    by_cases hz : m = 0
    · have b2 : ((m : Int) != 0) = false := by simp; omega
      have e : dec n = acc := by rw [HD.out, HE.out, hz, decF_zero]; rfl
      have HF := hide e
      clear e hz
      go_wp2
      go_ret
      exact ⟨by rw [HF.out]; rfl, hb⟩
    · have b2 : ((m : Int) != 0) = true := by simp; omega
      cases f with
      | zero => simp at hf; omega
      | succ f =>
      have HS := hide (dec_step HE.out hz)
      have HC := hide (accB_cons (figB (m % 10)) acc)
      obtain ⟨d, hd⟩ : ∃ d : Nat, (m : Int) % 10 = d := ⟨m % 10, by omega⟩
      have hd' : m % 10 = d := by omega
      rw [hd'] at HS HC
      have hd1 : d < 16 := by omega
      have hs1 := oneB_size (figB d)
      have hco := conv_one (figB d)
      clear hd'
      go_wp2_with (go_at_call 45; refine (figure_any _ _ ?_).mono ?_; assumption; rintro e w' ⟨rfl, rfl⟩)
      go_roundw
      case rel => exact ⟨f, m / 10, figB d :: acc, by go_num, by omega, by rw [Nat.pow_succ] at hf; omega, by simp; omega, HS, by rw [HC.out], hb.alloc hsz _⟩
      case measure => simp [intOf]; omega

theorem decimal_any (n : Nat) (w : World) (h1 : n ≤ 1000000000) :
    Calls Tryd.prog 35 #[.int .i64 n] w fun e w' => e = .returned (.string (accB (dec n))) ∧ Below w.heap.size w w' := by
  by_cases h0 : n = 0
  · subst h0
    go_enter Tryd.func35, Tryd.ntmps35
    go_wp2
    go_ret
    exact ⟨rfl, Below.refl _ _⟩
  · exact decimal_pos n w h0 h1

theorem dec_ne {n : Nat} {s : ByteArray} (h : (!(accB (dec n)).toList == s.toList) = true) : dec n ≠ s.data.toList := by
  intro e
  rw [ByteArray.toList_eq, ByteArray.toList_eq] at h
  simp [accB, e] at h
theorem dec_eq {n : Nat} {s : ByteArray} (h : (!(accB (dec n)).toList == s.toList) = false) : dec n = s.data.toList := by
  rw [ByteArray.toList_eq, ByteArray.toList_eq] at h
  simpa [accB] using h

set_option maxRecDepth 100000 in
set_option maxHeartbeats 800000 in
theorem specRD_in (s : ByteArray) (w : World) (r : Option Nat) (hr : rdd s.data.toList r) (h10 : s.size ≤ 10) :
    Calls Tryd.prog 20 #[.string s] w fun e w' => e = .returned (ddVal r) ∧ Below w.heap.size w w' := by
  have HR := hide hr
  have b0 : decide ((10 : Int) < (s.size : Int)) = false := by simp; omega
  clear hr
  go_enter Tryd.func20, Tryd.ntmps20
  go_wp2
  go_loop [4, 5] (fun x i => ∃ (k n : Nat), k ≤ s.size ∧ i = .int .i64 k ∧ x = .int .i64 n ∧ DAt s k n ∧ n < 10000000000) (fun _ i => s.size - (intOf i).toNat)
  case atStart => exact ⟨0, 0, Nat.zero_le _, rfl, rfl, DAt.start s, by omega⟩
  case round =>
    obtain ⟨k, n, hk, rfl, rfl, hat, hn⟩ := hrel
    by_cases hlt : k < s.size
    · obtain ⟨c, hc⟩ : ∃ c : Nat, (s[k]).toNat = c := ⟨_, rfl⟩
      have hc1 : c < 256 := by rw [← hc]; exact (s[k]).toNat_lt
      by_cases hd : 48 ≤ c ∧ c ≤ 57
      · have hA := hat.next hlt hc hd.1 hd.2
        have hB := hA.lt (by omega)
        have HA := hide hA
        have HB := hide hB
        have hd1 := hd.1
        have hd2 := hd.2
        clear hA hB hd
        go_wp2
        go_round
        case rel => exact ⟨k + 1, 10 * n + (c - 48), by omega, by go_num, by go_num, HA.out, HB.out⟩
        case measure => simp [intOf]; omega
      · have HV := hide (ddVal_none (rdd_nodig HR.out hlt hc hd))
        by_cases hd1 : 48 ≤ c
        · have hd2 : 57 < c := by omega
          clear hd
          go_wp2
          go_ret2
          exact ⟨ret_of HV.out, Below.refl _ _⟩
        · clear hd
          go_wp2
          go_ret2
          exact ⟨ret_of HV.out, Below.refl _ _⟩
    · by_cases hbig : 1000000000 < n
      · have HV := hide (ddVal_none (rdd_big HR.out hat hbig))
        go_wp2
        go_ret2
        exact ⟨ret_of HV.out, Below.refl _ _⟩
      · have HF := hide (rdd_form hat (by omega) h10)
        have HG := hide (fun hp => ddVal_some (rdd_good HR.out hat (by omega) (by omega) hp))
        have b3 : decide ((1000000000 : Int) < (n : Int)) = false := by simp; omega
        go_wp2_with (go_at_call 35; refine (decimal_any _ _ ?_).mono ?_; omega; rintro e w1 ⟨rfl, hb⟩)
        · have hx : (!(accB (dec n)).toList == s.toList) = true := by assumption
          have hv := ddVal_none (rdd_head HR.out (fun hp => dec_ne hx (HF.out.2 hp)))
          go_ret2
          exact ⟨ret_of hv, hb⟩
        · have hx : (!(accB (dec n)).toList == s.toList) = false := by assumption
          have hv := HG.out (HF.out.1 (dec_eq hx))
          go_ret2
          exact ⟨ret_of hv, hb⟩
theorem specRD_long (s : ByteArray) (w : World) (r : Option Nat) (hr : rdd s.data.toList r) (h10 : 10 < s.size) :
    Calls Tryd.prog 20 #[.string s] w fun e w' => e = .returned (ddVal r) ∧ Below w.heap.size w w' := by
  have HV := hide (ddVal_none (rdd_long hr h10))
  clear hr
  go_enter Tryd.func20, Tryd.ntmps20
  go_wp2
  go_ret2
  exact ⟨ret_of HV.out, Below.refl _ _⟩

theorem head_empty {s : ByteArray} (h : s.size = 0) : ¬ plainHead s.data.toList := by
  have : s.data.toList = [] := List.length_eq_zero_iff.1 (by simpa using h)
  rw [this]
  exact fun h => h
theorem head_cons {s : ByteArray} (h : 0 < s.size) : plainHead s.data.toList ↔ ¬ ((s[0]).toNat = 48 ∧ 1 < s.size) := by
  have e := dropC s 0 h
  rw [List.drop_zero] at e
  have hl : (s.data.toList.drop 1).length = s.size - 1 := by simp
  rw [e]
  show ¬ ((s[0]).toNat = 48 ∧ s.data.toList.drop (0 + 1) ≠ []) ↔ _
  have : s.data.toList.drop (0 + 1) ≠ [] ↔ 1 < s.size := by
    rw [Nat.zero_add]
    constructor
    · intro hne
      have : 0 < (s.data.toList.drop 1).length := List.length_pos_iff.2 hne
      omega
    · intro h1 he
      rw [he] at hl
      simp at hl
      omega
  rw [this]

set_option maxRecDepth 100000 in
set_option maxHeartbeats 1600000 in
theorem implRD_loop (s : ByteArray) (w : World) (r : Option Nat) (hr : rdd s.data.toList r) (hs : s.size ≤ 1048576) (hp : plainHead s.data.toList) (h0 : 0 < s.size) (c0 : Nat) (hc0 : (s[0]).toNat = c0) (h1 : ¬ (c0 = 48 ∧ 1 < s.size)) :
    Calls Tryd.prog 28 #[.string s] w fun e w' => e = .returned (ddVal r) ∧ Below w.heap.size w w' := by
  have HR := hide hr
  have HP := hide hp
  have hc1 : c0 < 256 := by rw [← hc0]; exact (s[0]).toNat_lt
  have hbs := fun W => run_bytes_of_string (P := Tryd.prog) W 9 54 5 s Tryd.underlying9 Tryd.underlying54 Tryd.underlying5
  clear hr hp
  have hn1 : ¬ s.toList = [] := by
    intro e
    rw [ByteArray.toList_eq] at e
    have : s.data.toList.length = s.size := by simp
    rw [e] at this
    simp at this
    omega
  have hn2 : s.toList.isEmpty = false := by
    cases h : s.toList with
    | nil => exact absurd h hn1
    | cons a t => rfl
  have hcase : (((c0 : Int) == 48) = true ∧ decide ((1 : Int) < (s.size : Int)) = false) ∨ ((c0 : Int) == 48) = false := by
    by_cases hz : c0 = 48
    · exact .inl ⟨by simp; omega, by simp; omega⟩
    · exact .inr (by simp; omega)
  clear h1
  rcases hcase with ⟨q1, q2⟩ | q1
  all_goals
    go_enter Tryd.func28, Tryd.ntmps28
    go_wp2
    go_step3
    go_wp2
    go_step3
    go_wp2
    go_loopw [4, 5, 24] (fun x y i wr => ∃ (k n : Nat), k ≤ s.size ∧ i = .int .i64 k ∧ y = .int .i64 k ∧ x = .int .i64 n ∧ DAt s k n ∧ n ≤ 1000000000 ∧ Below w.heap.size w wr ∧ Lies wr w.heap.size s) (fun _ _ i _ => s.size - (intOf i).toNat)
    case atStart => exact ⟨0, 0, Nat.zero_le _, rfl, rfl, rfl, DAt.start s, by omega, ((Below.refl _ w).alloc (Nat.le_refl _) _).drew, (lies_new w s _ _ _).of_heap rfl⟩
    case round =>
      obtain ⟨k, n, hk, rfl, rfl, rfl, hat, hn, hb, hlies⟩ := hrel
      by_cases hlt : k < s.size
      · obtain ⟨c, hc⟩ : ∃ c : Nat, (s[k]).toNat = c := ⟨_, rfl⟩
        have hc1 : c < 256 := by rw [← hc]; exact (s[k]).toNat_lt
        have hcell := hlies.cell k hlt
        rw [hc] at hcell
        have HC := hide hc
        have HLi := hide hlies
        clear hc hlies
        by_cases hd : 48 ≤ c ∧ c ≤ 57
        · have hA := hat.next hlt HC.out hd.1 hd.2
          have hd1 := hd.1
          have hd2 := hd.2
          by_cases hbig : 1000000000 < 10 * n + (c - 48)
          · have HV := hide (ddVal_none (rdd_big HR.out hA hbig))
            clear hA hd
            go_wp2
            all_goals
              try omega
              try rw [Exit.noGoto_ret]
              go_ret2
              exact ⟨ret_of HV.out, hb⟩
          · have HA := hide hA
            clear hA hd
            go_wp2
            go_roundw
            case rel => exact ⟨k + 1, 10 * n + (c - 48), by omega, by go_num, by go_num, by go_num, HA.out, by omega, hb, HLi.out⟩
            case measure => simp [intOf]; omega
        · have HV := hide (ddVal_none (rdd_nodig HR.out hlt HC.out hd))
          by_cases hd1 : 48 ≤ c
          · have hd2 : 57 < c := by omega
            clear hd
            go_wp2
            all_goals
              try omega
              try rw [Exit.noGoto_ret]
              go_ret2
              exact ⟨ret_of HV.out, hb⟩
          · clear hd
            go_wp2
            all_goals
              try omega
              try rw [Exit.noGoto_ret]
              go_ret2
              exact ⟨ret_of HV.out, hb⟩
      · have HV := hide (ddVal_some (rdd_good HR.out hat (by omega) hn HP.out))
        have hks : ¬ (k : Int) < (s.size : Int) := by omega
        go_wp2
        try rw [Exit.noGoto_ret]
        go_ret2
        exact ⟨ret_of HV.out, hb⟩
end Go.Proofs.YthfiaihbpnlbjaaDoor
