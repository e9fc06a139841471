/- impl.VarText, impl.ReadVar, impl.ShortText and impl.Hex by their contracts. -/
import Derived.Test.YtipippblnbihcaaDoorDrawB
import Derived.Test.YtipippblnbihcaaDoorMath
import Derived.Deep.RegionHeld3
namespace Go.Proofs.YtipippblnbihcaaDoor
open Go.RowKit Kit
theorem vb_big {n f m : Nat} {pre : List UInt8} (h : 127 < m) (hv : vb n = pre ++ vbF (f + 1) m) : vb n = (pre ++ [hiB m]) ++ vbF f (m / 128) := by
  rw [hv, vbF_big f m h]; simp
theorem vb_small {n f m : Nat} {pre : List UInt8} (h : m ≤ 127) (hv : vb n = pre ++ vbF f m) : pre ++ [loB m] = vb n := by
  rw [hv, vbF_small f m h]
theorem byte_big (m : Nat) : (m : Int) % 128 + 128 = ((hiB m).toNat : Int) := by
  simp [hiB, UInt8.toNat_ofNat']; omega
theorem byte_small (m : Nat) (h : m ≤ 127) : (m : Int) = ((loB m).toNat : Int) := by
  simp [loB, UInt8.toNat_ofNat']; omega
set_option maxHeartbeats 400000 in
theorem implVar_yes (n : Int) (w : World) (h0 : 0 ≤ n) (h1 : n ≤ 1000000000) :
    Calls Tryd.prog 6 #[.int .i64 n] w fun e w' => e = .returned (.tuple #[.string ⟨(vb n.toNat).toArray⟩, .bool true]) ∧ Below w.heap.size w w' := by
  go_enter Tryd.func6, Tryd.ntmps6
  go_wp2
  go_loopw [0, 4] (fun x v wr => ∃ (f m : Nat) (pre : List UInt8), x = .int .i64 m ∧ (m : Int) ≤ 1000000000 ∧ m < 128 ^ (f + 1) ∧ pre.length + f = 9 ∧ vb n.toNat = pre ++ vbF f m ∧ Owns wr w.heap.size 5 v pre ∧ Below w.heap.size w wr) (fun x _ _ => (intOf x).toNat)
  case atStart => 
    exact ⟨9, n.toNat, [], by rw [Int.toNat_of_nonneg h0], by omega, by omega, rfl, rfl, Owns.nil _ _ _, Below.refl _ _⟩
  case round =>
    obtain ⟨f, m, pre, rfl, hm, hf, hp, HV, hown, hb⟩ := hrel
    have HV' : Hid (vb n.toNat = pre ++ vbF f m) := HV
    clear HV
    have hsz := hb.size
    by_cases hlt : 127 < m
    · go_wp2_with (at_builtin; refine wpList_append_byte w rfl _ _ 22 rfl w.heap.size 5 Tryd.underlying22 Tryd.info5 _ pre rfl (hown.alloc _) (hb.alloc hsz _) ?c1 wr.heap.size rfl (hiB m) ((m : Int) % 128 + 128) (byte_big m) ?c2 ?c3 ?_)
      case c1 => simp; omega
      case c2 => simp
      case c3 => omega
      intro v' w1 R1 R2 _
      cases f with
      | zero => simp at hf; omega
      | succ f =>
      clear hown
      go_wp2
      go_roundw
      case rel => exact ⟨f, m / 128, pre ++ [hiB m], by go_num, by omega, by rw [Nat.pow_succ] at hf; omega, by simp; omega, vb_big hlt HV'.out, R1, R2⟩
      case measure => simp [intOf]; omega
    · go_wp2_with (at_builtin; refine wpList_append_byte w rfl _ _ 22 rfl w.heap.size 5 Tryd.underlying22 Tryd.info5 _ pre rfl (hown.alloc _) (hb.alloc hsz _) ?d1 wr.heap.size rfl (loB m) (m : Int) (byte_small m (by omega)) ?d2 ?d3 ?_)
      case d1 => simp; omega
      case d2 => simp
      case d3 => omega
      intro v' w1 R1 R2 _
      have hcv := conv_own (P := Tryd.prog) 22 9 5 Tryd.underlying22 Tryd.underlying5 Tryd.underlying9 R1
      have e := vb_small (by omega) HV'.out
      rw [e] at hcv
      clear hown R1 e
      go_wp2
      go_ret2
      exact ⟨rfl, R2⟩
theorem implVar_no (n : Int) (w : World) (h : n < 0 ∨ 1000000000 < n) :
    Calls Tryd.prog 6 #[.int .i64 n] w fun e w' => e = .returned (.tuple #[.string ⟨#[]⟩, .bool false]) ∧ w' = w := by
  by_cases h0 : n < 0
  · go_enter Tryd.func6, Tryd.ntmps6
    go_wp2
    go_ret2
    exact ⟨rfl, rfl⟩
  · have h1 : 1000000000 < n := by omega
    go_enter Tryd.func6, Tryd.ntmps6
    go_wp2
    go_ret2
    exact ⟨rfl, rfl⟩

/-- The bytes of a length, as a string. -/
def headOf (n : Nat) : ByteArray := ⟨(vb n).toArray⟩
theorem headOf_size (n : Nat) : (headOf n).size ≤ 10 := by
  have := vbF_len 9 n
  simp only [headOf, ByteArray.size, vb, List.size_toArray]
  omega
theorem implVar_head (n : Int) (w : World) (h0 : 0 ≤ n) (h1 : n ≤ 1000000000) :
    Calls Tryd.prog 6 #[.int .i64 n] w fun e w' => e = .returned (.tuple #[.string (headOf n.toNat), .bool true]) ∧ Below w.heap.size w w' := implVar_yes n w h0 h1
theorem implShort_yes (s : ByteArray) (w : World) (h : s.size ≤ 20000) :
    Calls Tryd.prog 11 #[.string s] w fun e w' => e = .returned (.tuple #[.string (headOf s.size ++ s), .bool true]) ∧ Below w.heap.size w w' := by
  have hz := headOf_size s.size
  go_enter Tryd.func11, Tryd.ntmps11
  go_wp2_with (first | (go_at_call 6; refine (implVar_head _ _ (by omega) (by omega)).mono ?_; rintro e w1 ⟨rfl, hb⟩; rw [Int.toNat_natCast]))
  go_ret2
  exact ⟨rfl, hb⟩
theorem implShort_no (s : ByteArray) (w : World) (h : 20000 < s.size) :
    Calls Tryd.prog 11 #[.string s] w fun e w' => e = .returned (.tuple #[.string ⟨#[]⟩, .bool false]) ∧ w' = w := by
  go_enter Tryd.func11, Tryd.ntmps11
  go_wp2
  go_ret2
  exact ⟨rfl, rfl⟩

/-- What is answered. -/
def rdVal (s : ByteArray) (p : Nat) : Value := match rd s p with
  | none => .tuple #[.int .i64 0, .int .i64 0, .bool false]
  | some (n, c) => .tuple #[.int .i64 n, .int .i64 (p + c : Nat), .bool true]
theorem rdVal_none {s : ByteArray} {p : Nat} (h : rd s p = none) : rdVal s p = .tuple #[.int .i64 0, .int .i64 0, .bool false] := by simp [rdVal, h]
theorem rdVal_some {s : ByteArray} {p n c : Nat} (h : rd s p = some (n, c)) : rdVal s p = .tuple #[.int .i64 n, .int .i64 (p + c : Nat), .bool true] := by simp [rdVal, h]
theorem pow_le {k : Nat} (h : k < 5) : 128 ^ k ≤ 268435456 := by
  have : 128 ^ k ≤ 128 ^ 4 := Nat.pow_le_pow_right (by decide) (by omega)
  simpa using this
theorem at_next {s : ByteArray} {p k m W c : Nat} (h : At s p k m) (hW : W = 128 ^ k) (hlt : p + k < s.size) (h5 : k < 5) (hc : (s[p + k]).toNat = c) (h1 : 127 < c) :
    At s p (k + 1) (m + c % 128 * W) ∧ m + c % 128 * W < W * 128 := by
  subst hW hc
  have hn := h.next hlt h5 (by omega)
  exact ⟨hn, by have := hn.lt; rwa [Nat.pow_succ] at this⟩
theorem at_none {s : ByteArray} {p k m W c : Nat} (h : At s p k m) (hW : W = 128 ^ k) (hlt : p + k < s.size) (h5 : k < 5) (hc : (s[p + k]).toNat = c) (h1 : c ≤ 127) (h2 : 1000000000 < m + c % 128 * W ∨ (c = 0 ∧ 0 < k)) :
    rdVal s p = .tuple #[.int .i64 0, .int .i64 0, .bool false] := by
  subst hW hc
  refine rdVal_none ?_
  rw [h.stop hlt h5 (by omega), if_pos h2]
theorem at_some {s : ByteArray} {p k m W c : Nat} (h : At s p k m) (hW : W = 128 ^ k) (hlt : p + k < s.size) (h5 : k < 5) (hc : (s[p + k]).toNat = c) (h1 : c ≤ 127) (h2 : ¬ (1000000000 < m + c % 128 * W ∨ (c = 0 ∧ 0 < k))) :
    rdVal s p = .tuple #[.int .i64 ((m : Int) + (c : Int) % 128 * (W : Int)), .int .i64 ((p : Int) + (k : Int) + 1), .bool true] := by
  subst hW hc
  have e := h.stop hlt h5 (by omega)
  rw [if_neg h2] at e
  rw [rdVal_some e]
  have e1 : ((m + (s[p + k]).toNat % 128 * 128 ^ k : Nat) : Int) = (m : Int) + ((s[p + k]).toNat : Int) % 128 * ((128 ^ k : Nat) : Int) := by
    rw [Int.natCast_add, Int.natCast_mul, Int.natCast_emod]; rfl
  rw [e1]
  simp only [Int.natCast_add]
  rw [show (p : Int) + ((k : Int) + ((1 : Nat) : Int)) = (p : Int) + (k : Int) + 1 by omega]
theorem cast3 (m c W : Nat) : ((m + c % 128 * W : Nat) : Int) = (m : Int) + (c : Int) % 128 * (W : Int) := by simp
set_option maxHeartbeats 800000 in
theorem implRead_in (s : ByteArray) (p : Nat) (w : World) (hs : s.size ≤ 1048576) (hp : p ≤ s.size) :
    Calls Tryd.prog 7 #[.string s, .int .i64 p] w fun e w' => e = .returned (rdVal s p) ∧ w' = w := by
  have b0 : decide ((p : Int) < 0) = false := by simp
  have b1 : decide (s.size < p) = false := by simp; omega
  have b2 : decide ((s.size : Int) < (p : Int)) = false := by simp; omega
  go_enter Tryd.func7, Tryd.ntmps7
  go_wp2
  go_loop [7, 8, 9] (fun n i q => ∃ (k m W : Nat), k ≤ 5 ∧ p + k ≤ s.size ∧ Hid (W = 128 ^ k) ∧ W ≤ 34359738368 ∧ m < W ∧ n = .int .i64 m ∧ i = .int .i64 (p + k : Nat) ∧ q = .int .i64 W ∧ At s p k m) (fun _ i _ => s.size - (intOf i).toNat)
  case atStart => exact ⟨0, 0, 1, by omega, by omega, hide rfl, by omega, by omega, rfl, rfl, rfl, At.start s p⟩
  case round =>
    obtain ⟨k, m, W, hk, hl, HW, hW, hm, rfl, rfl, rfl, hat⟩ := hrel
    by_cases hlt : p + k < s.size
    · by_cases h5 : k < 5
      · have hW4 : W ≤ 268435456 := by rw [HW.out]; exact pow_le h5
        obtain ⟨c, hc⟩ : ∃ c : Nat, (s[p + k]).toNat = c := ⟨_, rfl⟩
        have hc1 : c < 256 := by rw [← hc]; exact (s[p + k]).toNat_lt
        have hm0 : c % 128 * W ≤ 127 * 268435456 := Nat.mul_le_mul (by omega) hW4
        have HE := hide (cast3 m c W)
        have q1 : (0 : Int) ≤ (c : Int) % 128 * (W : Int) := Int.mul_nonneg (by omega) (by omega)
        have q2 : (c : Int) % 128 * (W : Int) ≤ 34091302912 := by
          have : ((c % 128 * W : Nat) : Int) ≤ 34091302912 := by omega
          simpa using this
        clear hm0
        have HC := hide hc
        by_cases h1 : 127 < c
        · have HN := hide (at_next hat HW.out hlt h5 hc h1)
          go_wp2
          go_round
          case rel => exact ⟨k + 1, m + c % 128 * W, W * 128, by omega, by omega, hide (by rw [HW.out, Nat.pow_succ]), by omega, HN.out.2, by rw [HE.out], by go_num, by go_num, HN.out.1⟩
          case measure => simp [intOf]; omega
        · by_cases h2 : 1000000000 < (m : Int) + (c : Int) % 128 * (W : Int)
          · have HN := hide (at_none hat HW.out hlt h5 hc (by omega) (.inl (by have := cast3 m c W; omega)))
            go_wp2
            go_ret3
            exact ⟨ret_of HN.out, rfl⟩
          · by_cases h3 : c = 0
            · have b3 : ((c : Int) == 0) = true := by simp [h3]
              by_cases h4 : 0 < k
              · have HN := hide (at_none hat HW.out hlt h5 hc (by omega) (.inr ⟨h3, h4⟩))
                clear h3
                go_wp2
                go_ret3
                exact ⟨ret_of HN.out, rfl⟩
              · have HN := hide (at_some hat HW.out hlt h5 hc (by omega) (by have := cast3 m c W; omega))
                clear h3
                go_wp2
                go_ret3
                exact ⟨ret_of HN.out, rfl⟩
            · have b3 : ((c : Int) == 0) = false := by simp [h3]
              have HN := hide (at_some hat HW.out hlt h5 hc (by omega) (by have := cast3 m c W; omega))
              clear h3
              go_wp2
              go_ret3
              exact ⟨ret_of HN.out, rfl⟩
      · have hW5 : 1000000000 < W := by rw [HW.out, show k = 5 by omega]; decide
        have HN := hide (rdVal_none (hat.out (.inr (by omega))))
        go_wp2
        go_ret3
        exact ⟨ret_of HN.out, rfl⟩
    · have HN := hide (rdVal_none (hat.out (.inl (by omega))))
      go_wp2
      go_ret3
      exact ⟨ret_of HN.out, rfl⟩
theorem implRead_out (s : ByteArray) (p : Int) (w : World) (_hs : s.size ≤ 1048576) (h : p < 0 ∨ (s.size : Int) < p) :
    Calls Tryd.prog 7 #[.string s, .int .i64 p] w fun e w' => e = .returned (.tuple #[.int .i64 0, .int .i64 0, .bool false]) ∧ w' = w := by
  by_cases h0 : p < 0
  · go_enter Tryd.func7, Tryd.ntmps7
    go_wp2
    go_ret3
    exact ⟨rfl, rfl⟩
  · have h1 : (s.size : Int) < p := by omega
    go_enter Tryd.func7, Tryd.ntmps7
    go_wp2
    go_ret3
    exact ⟨rfl, rfl⟩
def hexC : List UInt8 := [48, 49, 50, 51, 52, 53, 54, 55, 56, 57, 97, 98, 99, 100, 101, 102]
theorem hexC_at : ∀ c < 16, hexC[c]? = some (figB c) := by decide
/-- A figure taken out of the text of all figures. -/
theorem idx (c : Nat) (hc : c < 16) (w : World) : (Instr.index 9 (.string ⟨#[48, 49, 50, 51, 52, 53, 54, 55, 56, 57, 97, 98, 99, 100, 101, 102]⟩) (.int .u8 c)).run Tryd.prog w = .ok (.int .u8 ((figB c).toNat : Int)) w := by
  have h1 : (c : Int) < 16 := by omega
  have h0 : (0 : Int) ≤ (c : Int) := by omega
  have e : ((⟨#[48, 49, 50, 51, 52, 53, 54, 55, 56, 57, 97, 98, 99, 100, 101, 102]⟩ : ByteArray)[c]'(by show c < 16; omega)) = figB c := by
    have := hexC_at c hc
    rw [List.getElem?_eq_some_iff] at this
    exact this.2
  go_simp
set_option maxRecDepth 100000 in
set_option maxHeartbeats 800000 in
theorem implHex_yes (s : ByteArray) (w : World) (hs : s.size ≤ 20000) :
    Calls Tryd.prog 13 #[.string s] w fun e w' => e = .returned (.tuple #[.string ⟨(hexL s.data.toList).toArray⟩, .bool true]) ∧ Below w.heap.size w w' := by
  have b0 : decide ((20000 : Int) < (s.size : Int)) = false := by simp; omega
  obtain ⟨i0, hi, hz0, hz1, hz2⟩ := info_parts Tryd.info5
  have hbs := fun W => run_bytes_of_string (P := Tryd.prog) W 9 22 5 s Tryd.underlying9 Tryd.underlying22 Tryd.underlying5
  go_enter Tryd.func13, Tryd.ntmps13
  go_wp2_with (at_make; refine wpList_make_own _ rfl _ _ 22 rfl w.heap.size 5 i0 (.int .u8 0) 1 Tryd.underlying22 hi hz0 hz1 .i64 .i64 _ (2 * s.size) rfl rfl ?c1 ?c2 ?c3 ?c4 ?_)
  case c1 => omega
  case c2 => rw [hz2]; omega
  case c3 => unfold maxLen; omega
  case c4 => omega
  intro w1 hown1 hgrow1
  have hlt1 : w.heap.size < w1.heap.size := (hown1.lt w.heap.size rfl).2
  have O1 : Owns w1 w.heap.size 5 (.slice (some ⟨w.heap.size, 0, none⟩) 0 (2 * s.size)) [] := hown1
  have B1 : Below w.heap.size w w1 := (Below.refl _ w).grown hgrow1 (Nat.le_refl _) (fun k hk => by cases hk)
  clear hown1 hgrow1
  go_wp2
  go_loopw [4, 17] (fun v i wr => ∃ k : Nat, k ≤ s.size ∧ i = .int .i64 k ∧ Owns wr w.heap.size 5 v (hexL (s.data.toList.take k)) ∧ Below w.heap.size w wr ∧ Lies wr w1.heap.size s ∧ v.ownBlock ≠ some w1.heap.size) (fun _ i _ => s.size - (intOf i).toNat)
  case atStart =>
    refine ⟨0, Nat.zero_le _, rfl, (O1.alloc _).drew, (B1.alloc (by omega) _).drew, (lies_new w1 s _ _ _).of_heap rfl, ?_⟩
    intro h
    simp only [Value.ownBlock, Option.some.injEq] at h
    omega
  case round =>
    obtain ⟨k, hk, rfl, hown, hb, hlies, hne⟩ := hrel
    have hsz := hb.size
    by_cases hlt : k < s.size
    · obtain ⟨c, hc⟩ : ∃ c : Nat, (s[k]).toNat = c := ⟨_, rfl⟩
      have hc1 : c < 256 := by rw [← hc]; exact (s[k]).toNat_lt
      have HN := hide (hexL_next s k hlt hc)
      have hlen : (hexL (s.data.toList.take k)).length + 2 ≤ 1000000000000 := by
        rw [hexL_length, List.length_take]; omega
      obtain ⟨pre, hpre⟩ : ∃ pre, pre = hexL (s.data.toList.take k) := ⟨_, rfl⟩
      rw [← hpre] at hown hlen HN
      have hcell := hlies.cell k hlt
      rw [hc] at hcell
      clear hpre hc
      have HL := hide hlies
      have HNE := hide hne
      clear hlies hne
      obtain ⟨x, hx⟩ : ∃ x : Nat, c / 16 = x := ⟨_, rfl⟩
      obtain ⟨y, hy⟩ : ∃ y : Nat, c % 16 = y := ⟨_, rfl⟩
      have t1 : bits BinOp.and IntKind.u8 (c : Int) 15 = (y : Int) := by rw [u8_and15 (x := (c : Int)) (by omega) (by omega)]; omega
      have t2 : (c : Int) / 16 = (x : Int) := by omega
      have ix := fun W => idx x (by omega) W
      have iy := fun W => idx y (by omega) W
      rw [hx, hy] at HN
      clear hx hy
      go_wp2_with fail
      go_region_held3 (fun _ => True) (trivial) ((refine step_append_keeps w wr ?_ (.tmp 21) (.tmp 28) 22 ?_ w.heap.size 5 Tryd.underlying22 Tryd.info5 _ pre ?_ hown hb hsz (figB x) (figB y) ?_ hlen ?_; rfl; rfl; rfl; rfl; intro v' w2 R1 R2 R3))
      all_goals
        have R4 := R3 w1.heap.size HL.out.lt HNE.out
        have HR := hide R4
        clear R3 R4
        go_wp2
        go_roundw
        case rel => exact ⟨k + 1, by omega, by go_num, by rw [HN.out]; exact R1, R2, HL.out.of_heap HR.out.2, HR.out.1⟩
        case measure => simp [intOf]; omega
    · have HT := hide (take_all s k (by omega))
      have hcv := conv_own (P := Tryd.prog) 22 9 5 Tryd.underlying22 Tryd.underlying5 Tryd.underlying9 hown
      rw [HT.out] at hcv
      clear hown
      go_wp2
      go_ret2
      exact ⟨rfl, hb⟩
theorem implHex_no (s : ByteArray) (w : World) (h : 20000 < s.size) :
    Calls Tryd.prog 13 #[.string s] w fun e w' => e = .returned (.tuple #[.string ⟨#[]⟩, .bool false]) ∧ w' = w := by
  go_enter Tryd.func13, Tryd.ntmps13
  go_wp2
  go_ret2
  exact ⟨rfl, rfl⟩
end Go.Proofs.YtipippblnbihcaaDoor
