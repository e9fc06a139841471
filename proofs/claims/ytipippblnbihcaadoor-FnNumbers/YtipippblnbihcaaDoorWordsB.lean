/- impl.ReadShort, impl.Unhex, impl.ReadDecimal and impl.Decimal by their contracts. -/
import Derived.Test.YtipippblnbihcaaDoorWords
import Derived.Test.YtipippblnbihcaaDoorShelf
import Derived.WalkMore
import Derived.Lib.AppendIntMem
namespace Go.Proofs.YtipippblnbihcaaDoor
open Go.RowKit Kit

theorem clone_any (s : ByteArray) (w : World) (h : s.size ≤ 281474976710656) :
    Calls Tryd.prog 22 #[.string s] w fun e w' => e = .returned (.string s) ∧ Below w.heap.size w w' := by
  go_enter Tryd.func22, Tryd.ntmps22
  go_wp2_with (go_at_call 26; refine (Tryd.stringslite_Clone _ _ h).mono ?_; rintro e w1 ⟨rfl, hb⟩)
  go_ret
  exact ⟨rfl, hb⟩
theorem rdF_bound (f : Nat) : ∀ (rest : List UInt8) (k n m c : Nat), rdF f rest k n = some (m, c) → m ≤ 1000000000 ∧ c ≤ k + rest.length := by
  induction f with
  | zero => intro rest k n m c h; simp [rdF] at h
  | succ f ih =>
    intro rest k n m c h
    cases rest with
    | nil => simp [rdF] at h
    | cons b r =>
      rw [rdF] at h
      split at h
      · have := ih _ _ _ _ _ h
        simp only [List.length_cons]
        omega
      · split at h
        · cases h
        · simp only [Option.some.injEq, Prod.mk.injEq] at h
          simp only [List.length_cons]
          omega
theorem rd_bound {s : ByteArray} {p n c : Nat} (hp : p ≤ s.size) (h : rd s p = some (n, c)) : n ≤ 1000000000 ∧ p + c ≤ s.size := by
  have := rdF_bound 5 _ 0 0 n c h
  have h2 : s.data.toList.length = s.size := by simp
  rw [List.length_drop, h2] at this
  omega
/-- What is answered. -/
def rsVal (s : ByteArray) (p : Nat) : Value := match rd s p with
  | none => .tuple #[.string ⟨#[]⟩, .int .i64 0, .bool false]
  | some (n, c) => if 20000 < n ∨ s.size - (p + c) < n then .tuple #[.string ⟨#[]⟩, .int .i64 0, .bool false]
      else .tuple #[.string (s.extract (p + c) (p + c + n)), .int .i64 (p + c + n : Nat), .bool true]
theorem rsVal_none {s : ByteArray} {p : Nat} (h : rd s p = none) : rsVal s p = .tuple #[.string ⟨#[]⟩, .int .i64 0, .bool false] := by simp [rsVal, h]
theorem rsVal_bad {s : ByteArray} {p n c : Nat} (h : rd s p = some (n, c)) (h1 : 20000 < n ∨ s.size - (p + c) < n) : rsVal s p = .tuple #[.string ⟨#[]⟩, .int .i64 0, .bool false] := by simp [rsVal, h, h1]
theorem rsVal_good {s : ByteArray} {p n c : Nat} (h : rd s p = some (n, c)) (h1 : ¬ (20000 < n ∨ s.size - (p + c) < n)) : rsVal s p = .tuple #[.string (s.extract (p + c) (p + c + n)), .int .i64 (p + c + n : Nat), .bool true] := by simp [rsVal, h, h1]
theorem implRS_in (s : ByteArray) (p : Nat) (w : World) (hs : s.size ≤ 1048576) (hp : p ≤ s.size) :
    Calls Tryd.prog 12 #[.string s, .int .i64 p] w fun e w' => e = .returned (rsVal s p) ∧ Below w.heap.size w w' := by
  have H := fun w => implRead_in s p w hs hp
  cases hr : rd s p with
  | none =>
    rw [rdVal_none hr] at H
    have G := hide H
    have HV := hide (rsVal_none hr)
    clear H hr
    go_enter Tryd.func12, Tryd.ntmps12
    go_wp2_with (go_at_call 7; refine (G.out _).mono ?_; rintro e w1 ⟨rfl, rfl⟩)
    go_ret3
    exact ⟨ret_of HV.out, Below.refl _ _⟩
  | some nc =>
    obtain ⟨n, c⟩ := nc
    obtain ⟨hn, hc⟩ := rd_bound hp hr
    rw [rdVal_some hr] at H
    obtain ⟨q, hq⟩ : ∃ q, p + c = q := ⟨_, rfl⟩
    have hB := fun h => rsVal_bad hr h
    have hG := fun h => rsVal_good hr h
    rw [hq] at H hc hB hG
    have G := hide H
    have HB := hide hB
    have HG := hide hG
    clear H hr hq hB hG
    by_cases h1 : 20000 < n
    · go_enter Tryd.func12, Tryd.ntmps12
      go_wp2_with (go_at_call 7; refine (G.out _).mono ?_; rintro e w1 ⟨rfl, rfl⟩)
      go_ret3
      exact ⟨ret_of (HB.out (.inl h1)), Below.refl _ _⟩
    · by_cases h2 : (s.size : Int) - (q : Int) < (n : Int)
      · go_enter Tryd.func12, Tryd.ntmps12
        go_wp2_with (go_at_call 7; refine (G.out _).mono ?_; rintro e w1 ⟨rfl, rfl⟩)
        go_ret3
        exact ⟨ret_of (HB.out (.inr (by omega))), Below.refl _ _⟩
      · have hv := HG.out (by omega)
        have e1 : ((q : Int) + (n : Int)).toNat = q + n := by omega
        have e2 : ((q + n : Nat) : Int) = (q : Int) + (n : Int) := by omega
        rw [e2] at hv
        have hz : (s.extract q (q + n)).size ≤ 281474976710656 := by rw [ByteArray.size_extract]; omega
        have HV := hide hv
        have HZ := hide hz
        clear hv e2 hz
        go_enter Tryd.func12, Tryd.ntmps12
        go_wp2_with (first | (go_at_call 7; refine (G.out _).mono ?_; rintro e w1 ⟨rfl, rfl⟩) | (go_at_call 22; refine (clone_any _ _ HZ.out).mono ?_; rintro e w2 ⟨rfl, hb⟩))
        go_ret3
        exact ⟨ret_of HV.out, hb⟩
theorem byte_join {x y : Nat} (hx : x < 16) (hy : y < 16) : (16 * (x : Int) + (y : Int)) = ((joinB x y).toNat : Int) := by
  simp [joinB, UInt8.toNat_ofNat']; omega
theorem or_val {x y : Nat} (hx : x < 16) (hy : y < 16) {z : Int} (hz : z = (y : Int)) : bits BinOp.or IntKind.u8 ((x : Int) * 16) z = ((joinB x y).toNat : Int) := by
  subst hz
  rw [u8_or _ _ (by omega) (by omega) (by omega) (by omega)]
  have e1 : ((x : Int) * 16).toNat = x * 16 := by omega
  have e2 : (y : Int).toNat = y := by omega
  rw [e1, e2, or_join x hx y hy]
  have := byte_join hx hy
  omega
theorem own_form {w : World} {base : Nat} {e : TypeId} {v : Value} {l : List UInt8} (h : Owns w base e v l) : ∃ a cap, v = .slice a l.length cap := by
  rcases h.2 with ⟨rfl, h0⟩ | ⟨g, cap, cur, rfl, _⟩
  · exact ⟨none, 0, by rw [h0]⟩
  · exact ⟨_, _, rfl⟩
set_option maxRecDepth 100000 in
set_option maxHeartbeats 1600000 in
theorem implUnhex_in (s : ByteArray) (w : World) (h1 : s.size ≤ 40000) (h2 : s.size % 2 = 0) :
    Calls Tryd.prog 14 #[.string s] w fun e w' => e = .returned (uhVal s) ∧ Below w.heap.size w w' := by
  have b0 : decide ((40000 : Int) < (s.size : Int)) = false := by simp; omega
  have b1 : ((s.size : Int) % 2 != 0) = false := by simp; omega
  obtain ⟨i0, hi, hz0, hz1, hz2⟩ := info_parts Tryd.info5
  have hbs := fun W => run_bytes_of_string (P := Tryd.prog) W 9 22 5 s Tryd.underlying9 Tryd.underlying22 Tryd.underlying5
  go_enter Tryd.func14, Tryd.ntmps14
  go_wp2
  go_step3
  go_wp2_with (at_make; refine wpList_make_own _ rfl _ _ 22 rfl w.heap.size 5 i0 (.int .u8 0) 1 Tryd.underlying22 hi hz0 hz1 .i64 .i64 _ (s.size / 2) rfl rfl ?c1 ?c2 ?c3 ?c4 ?_)
  case c1 => omega
  case c2 => rw [hz2]; omega
  case c3 => unfold maxLen; omega
  case c4 => omega
  intro w1 hown1 hgrow1
  have hlt1 : w.heap.size < w1.heap.size := (hown1.lt w.heap.size rfl).2
  have O1 : Owns w1 w.heap.size 5 (.slice (some ⟨w.heap.size, 0, none⟩) 0 (s.size / 2)) [] := hown1
  have B1 : Below w.heap.size w w1 := (Below.refl _ w).grown hgrow1 (Nat.le_refl _) (fun k hk => by cases hk)
  clear hown1 hgrow1
  go_wp2
  go_step3
  go_wp2
  go_loopw [4, 5, 25] (fun v h i wr => ∃ (k : Nat) (p : Option Nat) (pre : List UInt8), k ≤ s.size ∧ i = .int .i64 k ∧ pre.length = k / 2 ∧ UAt s k p pre ∧ (k % 2 = 0 → p = none) ∧ (k % 2 = 1 → ∃ x : Nat, x < 16 ∧ p = some x ∧ h = .int .u8 x) ∧ Owns wr w.heap.size 5 v pre ∧ Below w.heap.size w wr ∧ Lies wr w1.heap.size s ∧ v.ownBlock ≠ some w1.heap.size) (fun _ _ i _ => s.size - (intOf i).toNat)
  case atStart =>
    refine ⟨0, none, [], Nat.zero_le _, rfl, rfl, UAt.start s, fun _ => rfl, fun h => absurd h (by decide), (O1.alloc _).drew, (B1.alloc (by omega) _).drew, (lies_new w1 s _ _ _).of_heap rfl, ?_⟩
    intro h
    simp only [Value.ownBlock, Option.some.injEq] at h
    omega
  case round =>
    obtain ⟨k, p, pre, hk, rfl, hl, hat, hev, hod, hown, hb, hlies, hne⟩ := hrel
    have HL := hide hl
    have hl2 : pre.length ≤ 1000000000000 := by omega
    have hsz := hb.size
    clear hl
    by_cases hlt : k < s.size
    · obtain ⟨c, hc⟩ : ∃ c : Nat, (s[k]).toNat = c := ⟨_, rfl⟩
      have hc1 : c < 256 := by rw [← hc]; exact (s[k]).toNat_lt
      have hcell := hlies.cell k hlt
      rw [hc] at hcell
      have HC := hide hc
      clear hc
      have HLi := hide hlies
      have HNE := hide hne
      clear hlies hne
      by_cases hpar : k % 2 = 0
      · have e0 := hev hpar
        subst e0
        clear hev hod
        have bp : ((k : Int) % 2 == 0) = true := by simp; omega
        rcases fv_cases c with ⟨g1, g2, hf⟩ | ⟨g1, g2, hf⟩ | ⟨g1, g2, hf⟩
        · have HA := hide (hat.first hlt (by rw [HC.out]; exact hf))
          have hx := fv_lt hf
          clear hf hat
          go_wp2
          go_roundw
          case rel => exact ⟨k + 1, some (c - 48), pre, by omega, by go_num, by have := HL.out; omega, HA.out, by omega, fun _ => ⟨c - 48, hx, rfl, by go_num⟩, hown, hb, HLi.out, HNE.out⟩
          case measure => simp [intOf]; omega
        · have HA := hide (hat.first hlt (by rw [HC.out]; exact hf))
          have hx := fv_lt hf
          clear hf hat
          go_wp2
          go_roundw
          case rel => exact ⟨k + 1, some (c - 87), pre, by omega, by go_num, by have := HL.out; omega, HA.out, by omega, fun _ => ⟨c - 87, hx, rfl, by go_num⟩, hown, hb, HLi.out, HNE.out⟩
          case measure => simp [intOf]; omega
        · have HV := hide (uhVal_none (hat.bad hlt (by rw [HC.out]; exact hf)))
          obtain ⟨ad, cap, hv⟩ := own_form hown
          subst hv
          have hsm : (pre.length : Int) < (s.size : Int) / 2 := by have := HL.out; omega
          clear hf hat hown
          go_wp2
          all_goals
            try omega
            try rw [Exit.noGoto_ret]
            go_ret2
            exact ⟨ret_of HV.out, hb⟩
      · obtain ⟨x, hx, e0, e1⟩ := hod (by omega)
        subst e0
        subst e1
        clear hev hod
        have bp : ((k : Int) % 2 == 0) = false := by simp; omega
        rcases fv_cases c with ⟨g1, g2, hf⟩ | ⟨g1, g2, hf⟩ | ⟨g1, g2, hf⟩
        · have HA := hide (hat.second hlt (by rw [HC.out]; exact hf))
          have hy := fv_lt hf
          have HJ := hide (or_val (z := (c : Int) - 48) hx hy (by omega))
          clear hf hat
          go_wp2_with (at_builtin; refine wpList_append_one w wr rfl _ _ 22 rfl w.heap.size 5 Tryd.underlying22 Tryd.info5 _ pre (by rfl) hown hb hsz (by rfl) (joinB x (c - 48)) _ HJ.out hl2 ?_; intro v' w2 R1 R2 R3)
          have R4 := hide (R3 w1.heap.size HLi.out.lt HNE.out)
          clear R3 hown
          go_wp2
          go_roundw
          case rel => exact ⟨k + 1, none, _, by omega, by go_num, by have := HL.out; simp; omega, HA.out, fun _ => rfl, fun h => absurd h (by omega), R1, R2, HLi.out.of_heap R4.out.2, R4.out.1⟩
          case measure => simp [intOf]; omega
        · have HA := hide (hat.second hlt (by rw [HC.out]; exact hf))
          have hy := fv_lt hf
          have HJ := hide (or_val (z := (c : Int) - 97 + 10) hx hy (by omega))
          clear hf hat
          go_wp2_with (at_builtin; refine wpList_append_one w wr rfl _ _ 22 rfl w.heap.size 5 Tryd.underlying22 Tryd.info5 _ pre (by rfl) hown hb hsz (by rfl) (joinB x (c - 87)) _ HJ.out hl2 ?_; intro v' w2 R1 R2 R3)
          have R4 := hide (R3 w1.heap.size HLi.out.lt HNE.out)
          clear R3 hown
          go_wp2
          go_roundw
          case rel => exact ⟨k + 1, none, _, by omega, by go_num, by have := HL.out; simp; omega, HA.out, fun _ => rfl, fun h => absurd h (by omega), R1, R2, HLi.out.of_heap R4.out.2, R4.out.1⟩
          case measure => simp [intOf]; omega
        · have HV := hide (uhVal_none (hat.bad hlt (by rw [HC.out]; exact hf)))
          obtain ⟨ad, cap, hv⟩ := own_form hown
          subst hv
          have hsm : (pre.length : Int) < (s.size : Int) / 2 := by have := HL.out; omega
          clear hf hat hown
          go_wp2
          all_goals
            try omega
            try rw [Exit.noGoto_ret]
            go_ret2
            exact ⟨ret_of HV.out, hb⟩
    · have e0 := hev (by omega)
      subst e0
      have HV := hide (uhVal_some (hat.done (by omega)))
      have hcv := conv_own (P := Tryd.prog) 22 9 5 Tryd.underlying22 Tryd.underlying5 Tryd.underlying9 hown
      obtain ⟨ad, cap, hv⟩ := own_form hown
      subst hv
      have hsm : ¬ (pre.length : Int) < (s.size : Int) / 2 := by have := HL.out; omega
      clear hown hev hod hat hlies hne
      go_wp2
      try rw [Exit.noGoto_ret]
      go_ret2
      exact ⟨ret_of HV.out, hb⟩
/-- The rest of the figures, as a string. -/
def accB (l : List UInt8) : ByteArray := ⟨l.toArray⟩
theorem accB_size (l : List UInt8) : (accB l).size = l.length := by simp [accB, ByteArray.size]
theorem head_empty {s : ByteArray} (h : s.size = 0) : ¬ plainHead s.data.toList := by
  have : s.data.toList = [] := List.length_eq_zero_iff.1 (by simpa using h)
  rw [this]
  exact fun h => h
theorem head_cons {s : ByteArray} (h : 0 < s.size) : plainHead s.data.toList ↔ ¬ ((s[0]).toNat = 48 ∧ 1 < s.size) := by
  have e := drop_cons s 0 h
  rw [List.drop_zero] at e
  have hl : (s.data.toList.drop 1).length = s.size - 1 := by simp
  rw [e]
  show ¬ ((s[0]).toNat = 48 ∧ s.data.toList.drop (0 + 1) ≠ []) ↔ _
  have : s.data.toList.drop (0 + 1) ≠ [] ↔ 1 < s.size := by
    rw [Nat.zero_add]
    constructor
    · intro hne
      have : 0 < (s.data.toList.drop 1).length := List.length_pos_iff.2 hne
      omega
    · intro h1 he
      rw [he] at hl
      simp at hl
      omega
  rw [this]
set_option maxRecDepth 100000 in
set_option maxHeartbeats 1600000 in
theorem implRD_loop (s : ByteArray) (w : World) (r : Option Nat) (hr : rdd s.data.toList r) (hs : s.size ≤ 1048576) (hp : plainHead s.data.toList) (h0 : 0 < s.size) (c0 : Nat) (hc0 : (s[0]).toNat = c0) (h1 : ¬ (c0 = 48 ∧ 1 < s.size)) :
    Calls Tryd.prog 8 #[.string s] w fun e w' => e = .returned (ddVal r) ∧ Below w.heap.size w w' := by
  have HR := hide hr
  have HP := hide hp
  have hc1 : c0 < 256 := by rw [← hc0]; exact (s[0]).toNat_lt
  have hbs := fun W => run_bytes_of_string (P := Tryd.prog) W 9 22 5 s Tryd.underlying9 Tryd.underlying22 Tryd.underlying5
  clear hr hp
  have hn1 : ¬ s.toList = [] := by
    intro e
    rw [ByteArray.toList_eq] at e
    have : s.data.toList.length = s.size := by simp
    rw [e] at this
    simp at this
    omega
  have hn2 : s.toList.isEmpty = false := by
    cases h : s.toList with
    | nil => exact absurd h hn1
    | cons a t => rfl
  have hcase : (((c0 : Int) == 48) = true ∧ decide ((1 : Int) < (s.size : Int)) = false) ∨ ((c0 : Int) == 48) = false := by
    by_cases hz : c0 = 48
    · exact .inl ⟨by simp; omega, by simp; omega⟩
    · exact .inr (by simp; omega)
  clear h1
  rcases hcase with ⟨q1, q2⟩ | q1
  all_goals
    go_enter Tryd.func8, Tryd.ntmps8
    go_wp2
    go_step3
    go_wp2
    go_step3
    go_wp2
    go_loopw [4, 5, 24] (fun x y i wr => ∃ (k n : Nat), k ≤ s.size ∧ i = .int .i64 k ∧ y = .int .i64 k ∧ x = .int .i64 n ∧ DAt s k n ∧ n ≤ 1000000000 ∧ Below w.heap.size w wr ∧ Lies wr w.heap.size s) (fun _ _ i _ => s.size - (intOf i).toNat)
    case atStart => exact ⟨0, 0, Nat.zero_le _, rfl, rfl, rfl, DAt.start s, by omega, ((Below.refl _ w).alloc (Nat.le_refl _) _).drew, (lies_new w s _ _ _).of_heap rfl⟩
    case round =>
      obtain ⟨k, n, hk, rfl, rfl, rfl, hat, hn, hb, hlies⟩ := hrel
      by_cases hlt : k < s.size
      · obtain ⟨c, hc⟩ : ∃ c : Nat, (s[k]).toNat = c := ⟨_, rfl⟩
        have hc1 : c < 256 := by rw [← hc]; exact (s[k]).toNat_lt
        have hcell := hlies.cell k hlt
        rw [hc] at hcell
        have HC := hide hc
        have HLi := hide hlies
        clear hc hlies
        by_cases hd : 48 ≤ c ∧ c ≤ 57
        · have hA := hat.next hlt HC.out hd.1 hd.2
          have hd1 := hd.1
          have hd2 := hd.2
          by_cases hbig : 1000000000 < 10 * n + (c - 48)
          · have HV := hide (ddVal_none (rdd_big HR.out hA hbig))
            clear hA hd
            go_wp2
            all_goals
              try omega
              try rw [Exit.noGoto_ret]
              go_ret2
              exact ⟨ret_of HV.out, hb⟩
          · have HA := hide hA
            clear hA hd
            go_wp2
            go_roundw
            case rel => exact ⟨k + 1, 10 * n + (c - 48), by omega, by go_num, by go_num, by go_num, HA.out, by omega, hb, HLi.out⟩
            case measure => simp [intOf]; omega
        · have HV := hide (ddVal_none (rdd_nodig HR.out hlt HC.out hd))
          by_cases hd1 : 48 ≤ c
          · have hd2 : 57 < c := by omega
            clear hd
            go_wp2
            all_goals
              try omega
              try rw [Exit.noGoto_ret]
              go_ret2
              exact ⟨ret_of HV.out, hb⟩
          · clear hd
            go_wp2
            all_goals
              try omega
              try rw [Exit.noGoto_ret]
              go_ret2
              exact ⟨ret_of HV.out, hb⟩
      · have HV := hide (ddVal_some (rdd_good HR.out hat (by omega) hn HP.out))
        have hks : ¬ (k : Int) < (s.size : Int) := by omega
        go_wp2
        try rw [Exit.noGoto_ret]
        go_ret2
        exact ⟨ret_of HV.out, hb⟩
theorem implRD_bad (s : ByteArray) (w : World) (r : Option Nat) (hr : rdd s.data.toList r) (hs : s.size ≤ 1048576) (hp : ¬ plainHead s.data.toList) :
    Calls Tryd.prog 8 #[.string s] w fun e w' => e = .returned (ddVal r) ∧ Below w.heap.size w w' := by
  have HV := hide (ddVal_none (rdd_head hr hp))
  by_cases h0 : 0 < s.size
  · have hh := head_cons h0
    have h1 : (s[0]).toNat = 48 ∧ 1 < s.size := Classical.byContradiction fun h => hp (hh.2 h)
    have hn1 : ¬ s.toList = [] := by
      intro e
      rw [ByteArray.toList_eq] at e
      have : s.data.toList.length = s.size := by simp
      rw [e] at this
      simp at this
      omega
    have hn2 : s.toList.isEmpty = false := by
      cases h : s.toList with
      | nil => exact absurd h hn1
      | cons a t => rfl
    have q0 := h1.1
    have q1 : decide ((1 : Int) < (s.size : Int)) = true := by simp; omega
    clear hr hp hh h1
    go_enter Tryd.func8, Tryd.ntmps8
    go_wp2
    go_step3
    go_wp2
    try rw [Exit.noGoto_ret]
    go_ret2
    exact ⟨ret_of HV.out, Below.refl _ _⟩
  · have hn1 : s.toList = [] := by
      rw [ByteArray.toList_eq]
      have e : s.data.toList.length = s.size := by simp
      exact List.length_eq_zero_iff.1 (by omega)
    have hn2 : s.toList.isEmpty = true := by rw [hn1]; rfl
    clear hr hp
    go_enter Tryd.func8, Tryd.ntmps8
    go_wp2
    go_step3
    go_wp2
    try rw [Exit.noGoto_ret]
    go_ret2
    exact ⟨ret_of HV.out, Below.refl _ _⟩
theorem implRD_any (s : ByteArray) (w : World) (r : Option Nat) (hr : rdd s.data.toList r) (hs : s.size ≤ 1048576) :
    Calls Tryd.prog 8 #[.string s] w fun e w' => e = .returned (ddVal r) ∧ Below w.heap.size w w' := by
  by_cases hp : plainHead s.data.toList
  · have h0 : 0 < s.size := Nat.pos_of_ne_zero fun h => head_empty h hp
    exact implRD_loop s w r hr hs hp h0 _ rfl ((head_cons h0).1 hp)
  · exact implRD_bad s w r hr hs hp
theorem implDecimal_any (n : Int) (w : World) (h0 : -9223372036854775808 ≤ n) (h1 : n ≤ 9223372036854775807) (htab : Lib.TabIs Tryd.prog w "internal/strconv.uint64pow10" .u64 Lib.pow10Tab) :
    Calls Tryd.prog 9 #[.int .i64 n] w fun e w' => e = .returned (.string (accB (Lib.itoa n))) ∧ Below w.heap.size w w' := by
  have HT := hide htab
  clear htab
  go_enter Tryd.func9, Tryd.ntmps9
  go_wp2_with (go_at_call 17; refine (Tryd.strconv_Itoa _ h0 h1 _ HT.out).mono ?_; rintro e w1 ⟨rfl, k, os, rfl⟩)
  go_ret
  exact ⟨rfl, Lib.below_grow _ _ (Nat.le_refl _) _ _⟩
end Go.Proofs.YtipippblnbihcaaDoor
