/- Contracts of the words' functions at this seat: l01In, l01Var, VarText, ShortText, ReadVar, ReadShort, Clone. -/
import Derived.Test.YtfffiboggpjjkaaRows
import Derived.Test.YtfffiboggpjjkaaRd
import Derived.Test.YtfffiboggpjjkaaShelf
import Derived.Deep.RegionWith
import Derived.Deep.QuietTactic
import Derived.BigQuiet
import Derived.Deep.RegionHeld3
namespace Go.Proofs.Ytfffiboggpjjkaa
open Go.RowKit Kit

theorem Try.info5 : (Try.prog.info? 5).map (fun i => (i.zero, i.size, i.bytes)) = some (some (.int .u8 0), 1, 1) := by kernel_rfl
theorem vb_big {n f m : Nat} {pre : List UInt8} (h : 127 < m) (hv : vb n = pre ++ vbF (f + 1) m) : vb n = (pre ++ [hiB m]) ++ vbF f (m / 128) := by
  rw [hv, vbF_big f m h]; simp
theorem vb_small {n f m : Nat} {pre : List UInt8} (h : m ≤ 127) (hv : vb n = pre ++ vbF f m) : pre ++ [loB m] = vb n := by
  rw [hv, vbF_small f m h]
theorem byte_big (m : Nat) : (m : Int) % 128 + 128 = ((hiB m).toNat : Int) := by
  simp [hiB, UInt8.toNat_ofNat']; omega
theorem byte_small (m : Nat) (h : m ≤ 127) : (m : Int) = ((loB m).toNat : Int) := by
  simp [loB, UInt8.toNat_ofNat']; omega
set_option maxHeartbeats 400000 in
theorem l01Var_any (n : Int) (w : World) (h0 : 0 ≤ n) (h1 : n ≤ 1000000000) :
    Calls Try.prog 51 #[.int .i64 n] w fun e w' => e = .returned (.string ⟨(vb n.toNat).toArray⟩) ∧ Below w.heap.size w w' := by
  go_enter Try.func51, Try.ntmps51
  go_wp2
  go_loopw [0, 3] (fun x v wr => ∃ (f m : Nat) (pre : List UInt8), x = .int .i64 m ∧ (m : Int) ≤ 1000000000 ∧ m < 128 ^ (f + 1) ∧ pre.length + f = 9 ∧ vb n.toNat = pre ++ vbF f m ∧ Owns wr w.heap.size 5 v pre ∧ Below w.heap.size w wr) (fun x _ _ => (intOf x).toNat)
  case atStart => 
    exact ⟨9, n.toNat, [], by rw [Int.toNat_of_nonneg h0], by omega, by omega, rfl, rfl, Owns.lit0 w _ 5 (Nat.le_refl _), (Below.refl _ _).alloc (Nat.le_refl _) _⟩
  case round =>
    obtain ⟨f, m, pre, rfl, hm, hf, hp, HV, hown, hb⟩ := hrel
    have HV' : Hid (vb n.toNat = pre ++ vbF f m) := HV
    clear HV
    have hsz := hb.size
    by_cases hlt : 127 < m
    · go_wp2_with (at_builtin; refine wpList_append_byte w rfl _ _ 22 rfl w.heap.size 5 Try.underlying22 Try.info5 _ pre rfl (hown.alloc _) (hb.alloc hsz _) ?c1 wr.heap.size rfl (hiB m) ((m : Int) % 128 + 128) (byte_big m) ?c2 ?c3 ?_)
      case c1 => simp; omega
      case c2 => simp
      case c3 => omega
      intro v' w1 R1 R2 _
      cases f with
      | zero => simp at hf; omega
      | succ f =>
      clear hown
      go_wp2
      go_roundw
      case rel => exact ⟨f, m / 128, pre ++ [hiB m], by go_num, by omega, by rw [Nat.pow_succ] at hf; omega, by simp; omega, vb_big hlt HV'.out, R1, R2⟩
      case measure => simp [intOf]; omega
    · go_wp2_with (at_builtin; refine wpList_append_byte w rfl _ _ 22 rfl w.heap.size 5 Try.underlying22 Try.info5 _ pre rfl (hown.alloc _) (hb.alloc hsz _) ?d1 wr.heap.size rfl (loB m) (m : Int) (byte_small m (by omega)) ?d2 ?d3 ?_)
      case d1 => simp; omega
      case d2 => simp
      case d3 => omega
      intro v' w1 R1 R2 _
      have hcv := conv_own (P := Try.prog) 22 9 5 Try.underlying22 Try.underlying5 Try.underlying9 R1
      have e := vb_small (by omega) HV'.out
      rw [e] at hcv
      clear hown R1 e
      go_wp2
      go_ret
      exact ⟨rfl, R2⟩
set_option maxHeartbeats 400000 in
theorem implVar_yes (n : Int) (w : World) (h0 : 0 ≤ n) (h1 : n ≤ 1000000000) :
    Calls Try.prog 56 #[.int .i64 n] w fun e w' => e = .returned (.tuple #[.string ⟨(vb n.toNat).toArray⟩, .bool true]) ∧ Below w.heap.size w w' := by
  go_enter Try.func56, Try.ntmps56
  go_wp2
  go_loopw [0, 4] (fun x v wr => ∃ (f m : Nat) (pre : List UInt8), x = .int .i64 m ∧ (m : Int) ≤ 1000000000 ∧ m < 128 ^ (f + 1) ∧ pre.length + f = 9 ∧ vb n.toNat = pre ++ vbF f m ∧ Owns wr w.heap.size 5 v pre ∧ Below w.heap.size w wr) (fun x _ _ => (intOf x).toNat)
  case atStart => 
    exact ⟨9, n.toNat, [], by rw [Int.toNat_of_nonneg h0], by omega, by omega, rfl, rfl, Owns.nil _ _ _, Below.refl _ _⟩
  case round =>
    obtain ⟨f, m, pre, rfl, hm, hf, hp, HV, hown, hb⟩ := hrel
    have HV' : Hid (vb n.toNat = pre ++ vbF f m) := HV
    clear HV
    have hsz := hb.size
    by_cases hlt : 127 < m
    · go_wp2_with (at_builtin; refine wpList_append_byte w rfl _ _ 22 rfl w.heap.size 5 Try.underlying22 Try.info5 _ pre rfl (hown.alloc _) (hb.alloc hsz _) ?c1 wr.heap.size rfl (hiB m) ((m : Int) % 128 + 128) (byte_big m) ?c2 ?c3 ?_)
      case c1 => simp; omega
      case c2 => simp
      case c3 => omega
      intro v' w1 R1 R2 _
      cases f with
      | zero => simp at hf; omega
      | succ f =>
      clear hown
      go_wp2
      go_roundw
      case rel => exact ⟨f, m / 128, pre ++ [hiB m], by go_num, by omega, by rw [Nat.pow_succ] at hf; omega, by simp; omega, vb_big hlt HV'.out, R1, R2⟩
      case measure => simp [intOf]; omega
    · go_wp2_with (at_builtin; refine wpList_append_byte w rfl _ _ 22 rfl w.heap.size 5 Try.underlying22 Try.info5 _ pre rfl (hown.alloc _) (hb.alloc hsz _) ?d1 wr.heap.size rfl (loB m) (m : Int) (byte_small m (by omega)) ?d2 ?d3 ?_)
      case d1 => simp; omega
      case d2 => simp
      case d3 => omega
      intro v' w1 R1 R2 _
      have hcv := conv_own (P := Try.prog) 22 9 5 Try.underlying22 Try.underlying5 Try.underlying9 R1
      have e := vb_small (by omega) HV'.out
      rw [e] at hcv
      clear hown R1 e
      go_wp2
      go_ret2
      exact ⟨rfl, R2⟩
def inB (x a b : Int) : Bool := decide (a ≤ x ∧ x ≤ b)
theorem inB_true {x a b : Int} (h : inB x a b = true) : a ≤ x ∧ x ≤ b := of_decide_eq_true h
theorem inB_false {x a b : Int} (h : inB x a b = false) : x < a ∨ b < x := by
  have := of_decide_eq_false h
  omega
theorem l01In_any (x a b : Int) (w : World) :
    Calls Try.prog 40 #[.int .i64 x, .int .i64 a, .int .i64 b] w fun e w' => e = .returned (.bool (inB x a b)) ∧ w' = w := by
  by_cases h0 : a ≤ x
  · by_cases h1 : x ≤ b
    · have hv : inB x a b = true := by simp [inB, h0, h1]
      have HV := hide hv
      clear hv
      go_enter Try.func40, Try.ntmps40
      go_wp2
      go_ret
      exact ⟨by rw [HV.out]; simp, rfl⟩
    · have hv : inB x a b = false := by simp [inB, h1]
      have HV := hide hv
      clear hv
      go_enter Try.func40, Try.ntmps40
      go_wp2
      go_ret
      exact ⟨by rw [HV.out]; simp, rfl⟩
  · have hv : inB x a b = false := by simp [inB, h0]
    have HV := hide hv
    clear hv
    go_enter Try.func40, Try.ntmps40
    go_wp2
    go_ret
    exact ⟨by rw [HV.out]; simp, rfl⟩

/-- The bytes of a length, as a string. -/
def headOf (n : Nat) : ByteArray := ⟨(vb n).toArray⟩
theorem headOf_size (n : Nat) : (headOf n).size ≤ 10 := by
  have := vbF_len 9 n
  simp only [headOf, ByteArray.size, vb, List.size_toArray]
  omega
theorem l01Var_head (n : Int) (w : World) (h0 : 0 ≤ n) (h1 : n ≤ 1000000000) :
    Calls Try.prog 51 #[.int .i64 n] w fun e w' => e = .returned (.string (headOf n.toNat)) ∧ Below w.heap.size w w' := l01Var_any n w h0 h1
theorem implVar_head (n : Int) (w : World) (h0 : 0 ≤ n) (h1 : n ≤ 1000000000) :
    Calls Try.prog 56 #[.int .i64 n] w fun e w' => e = .returned (.tuple #[.string (headOf n.toNat), .bool true]) ∧ Below w.heap.size w w' := implVar_yes n w h0 h1
theorem implShort_yes (s : ByteArray) (w : World) (h : s.size ≤ 20000) :
    Calls Try.prog 35 #[.string s] w fun e w' => e = .returned (.tuple #[.string (headOf s.size ++ s), .bool true]) ∧ Below w.heap.size w w' := by
  have hz := headOf_size s.size
  go_enter Try.func35, Try.ntmps35
  go_wp2_with (first | (go_at_call 56; refine (implVar_head _ _ (by omega) (by omega)).mono ?_; rintro e w1 ⟨rfl, hb⟩; rw [Int.toNat_natCast]))
  go_ret2
  exact ⟨rfl, hb⟩

/-- What is answered. -/
def rdVal (s : ByteArray) (p : Nat) : Value := match rd s p with
  | none => .tuple #[.int .i64 0, .int .i64 0, .bool false]
  | some (n, c) => .tuple #[.int .i64 n, .int .i64 (p + c : Nat), .bool true]
theorem rdVal_none {s : ByteArray} {p : Nat} (h : rd s p = none) : rdVal s p = .tuple #[.int .i64 0, .int .i64 0, .bool false] := by simp [rdVal, h]
theorem rdVal_some {s : ByteArray} {p n c : Nat} (h : rd s p = some (n, c)) : rdVal s p = .tuple #[.int .i64 n, .int .i64 (p + c : Nat), .bool true] := by simp [rdVal, h]
theorem pow_le {k : Nat} (h : k < 5) : 128 ^ k ≤ 268435456 := by
  have : 128 ^ k ≤ 128 ^ 4 := Nat.pow_le_pow_right (by decide) (by omega)
  simpa using this
theorem at_next {s : ByteArray} {p k m W c : Nat} (h : At s p k m) (hW : W = 128 ^ k) (hlt : p + k < s.size) (h5 : k < 5) (hc : (s[p + k]).toNat = c) (h1 : 127 < c) :
    At s p (k + 1) (m + c % 128 * W) ∧ m + c % 128 * W < W * 128 := by
  subst hW hc
  have hn := h.next hlt h5 (by omega)
  exact ⟨hn, by have := hn.lt; rwa [Nat.pow_succ] at this⟩
theorem at_none {s : ByteArray} {p k m W c : Nat} (h : At s p k m) (hW : W = 128 ^ k) (hlt : p + k < s.size) (h5 : k < 5) (hc : (s[p + k]).toNat = c) (h1 : c ≤ 127) (h2 : 1000000000 < m + c % 128 * W ∨ (c = 0 ∧ 0 < k)) :
    rdVal s p = .tuple #[.int .i64 0, .int .i64 0, .bool false] := by
  subst hW hc
  refine rdVal_none ?_
  rw [h.stop hlt h5 (by omega), if_pos h2]
theorem at_some {s : ByteArray} {p k m W c : Nat} (h : At s p k m) (hW : W = 128 ^ k) (hlt : p + k < s.size) (h5 : k < 5) (hc : (s[p + k]).toNat = c) (h1 : c ≤ 127) (h2 : ¬ (1000000000 < m + c % 128 * W ∨ (c = 0 ∧ 0 < k))) :
    rdVal s p = .tuple #[.int .i64 ((m : Int) + (c : Int) % 128 * (W : Int)), .int .i64 ((p : Int) + (k : Int) + 1), .bool true] := by
  subst hW hc
  have e := h.stop hlt h5 (by omega)
  rw [if_neg h2] at e
  rw [rdVal_some e]
  have e1 : ((m + (s[p + k]).toNat % 128 * 128 ^ k : Nat) : Int) = (m : Int) + ((s[p + k]).toNat : Int) % 128 * ((128 ^ k : Nat) : Int) := by
    rw [Int.natCast_add, Int.natCast_mul, Int.natCast_emod]; rfl
  rw [e1]
  simp only [Int.natCast_add]
  rw [show (p : Int) + ((k : Int) + ((1 : Nat) : Int)) = (p : Int) + (k : Int) + 1 by omega]
theorem cast3 (m c W : Nat) : ((m + c % 128 * W : Nat) : Int) = (m : Int) + (c : Int) % 128 * (W : Int) := by simp
set_option maxHeartbeats 800000 in
theorem implRead_in (s : ByteArray) (p : Nat) (w : World) (hs : s.size ≤ 1048576) (hp : p ≤ s.size) :
    Calls Try.prog 74 #[.string s, .int .i64 p] w fun e w' => e = .returned (rdVal s p) ∧ w' = w := by
  have b0 : decide ((p : Int) < 0) = false := by simp
  have b1 : decide (s.size < p) = false := by simp; omega
  have b2 : decide ((s.size : Int) < (p : Int)) = false := by simp; omega
  go_enter Try.func74, Try.ntmps74
  go_wp2
  go_loop [7, 8, 9] (fun n i q => ∃ (k m W : Nat), k ≤ 5 ∧ p + k ≤ s.size ∧ Hid (W = 128 ^ k) ∧ W ≤ 34359738368 ∧ m < W ∧ n = .int .i64 m ∧ i = .int .i64 (p + k : Nat) ∧ q = .int .i64 W ∧ At s p k m) (fun _ i _ => s.size - (intOf i).toNat)
  case atStart => exact ⟨0, 0, 1, by omega, by omega, hide rfl, by omega, by omega, rfl, rfl, rfl, At.start s p⟩
  case round =>
    obtain ⟨k, m, W, hk, hl, HW, hW, hm, rfl, rfl, rfl, hat⟩ := hrel
    by_cases hlt : p + k < s.size
    · by_cases h5 : k < 5
      · have hW4 : W ≤ 268435456 := by rw [HW.out]; exact pow_le h5
        obtain ⟨c, hc⟩ : ∃ c : Nat, (s[p + k]).toNat = c := ⟨_, rfl⟩
        have hc1 : c < 256 := by rw [← hc]; exact (s[p + k]).toNat_lt
        have hm0 : c % 128 * W ≤ 127 * 268435456 := Nat.mul_le_mul (by omega) hW4
        have HE := hide (cast3 m c W)
        have q1 : (0 : Int) ≤ (c : Int) % 128 * (W : Int) := Int.mul_nonneg (by omega) (by omega)
        have q2 : (c : Int) % 128 * (W : Int) ≤ 34091302912 := by
          have : ((c % 128 * W : Nat) : Int) ≤ 34091302912 := by omega
          simpa using this
        clear hm0
        have HC := hide hc
        by_cases h1 : 127 < c
        · have HN := hide (at_next hat HW.out hlt h5 hc h1)
          go_wp2
          go_round
          case rel => exact ⟨k + 1, m + c % 128 * W, W * 128, by omega, by omega, hide (by rw [HW.out, Nat.pow_succ]), by omega, HN.out.2, by rw [HE.out], by go_num, by go_num, HN.out.1⟩
          case measure => simp [intOf]; omega
        · by_cases h2 : 1000000000 < (m : Int) + (c : Int) % 128 * (W : Int)
          · have HN := hide (at_none hat HW.out hlt h5 hc (by omega) (.inl (by have := cast3 m c W; omega)))
            go_wp2
            go_ret3
            exact ⟨ret_of HN.out, rfl⟩
          · by_cases h3 : c = 0
            · have b3 : ((c : Int) == 0) = true := by simp [h3]
              by_cases h4 : 0 < k
              · have HN := hide (at_none hat HW.out hlt h5 hc (by omega) (.inr ⟨h3, h4⟩))
                clear h3
                go_wp2
                go_ret3
                exact ⟨ret_of HN.out, rfl⟩
              · have HN := hide (at_some hat HW.out hlt h5 hc (by omega) (by have := cast3 m c W; omega))
                clear h3
                go_wp2
                go_ret3
                exact ⟨ret_of HN.out, rfl⟩
            · have b3 : ((c : Int) == 0) = false := by simp [h3]
              have HN := hide (at_some hat HW.out hlt h5 hc (by omega) (by have := cast3 m c W; omega))
              clear h3
              go_wp2
              go_ret3
              exact ⟨ret_of HN.out, rfl⟩
      · have hW5 : 1000000000 < W := by rw [HW.out, show k = 5 by omega]; decide
        have HN := hide (rdVal_none (hat.out (.inr (by omega))))
        go_wp2
        go_ret3
        exact ⟨ret_of HN.out, rfl⟩
    · have HN := hide (rdVal_none (hat.out (.inl (by omega))))
      go_wp2
      go_ret3
      exact ⟨ret_of HN.out, rfl⟩

theorem form_eq {s : ByteArray} {p k m W c : Nat} (h : At s p k m) (hW : W = 128 ^ k) (hlt : p + k < s.size) (h5 : k < 5) (hc : (s[p + k]).toNat = c) (h1 : c ≤ 127) :
    headOf (m + c % 128 * W) = s.extract p (p + k + 1) ↔ ¬ (c = 0 ∧ 0 < k) := by
  subst hW hc
  rw [← h.form hlt h5 (by omega)]
  constructor
  · intro e; rw [← e]; rfl
  · intro e
    unfold headOf
    rw [e]
theorem toNat3 (p k : Nat) : ((p : Int) + (k : Int) + 1).toNat = p + k + 1 := by omega
theorem form_no {s : ByteArray} {p k T c m W : Nat} (hT : m + c % 128 * W = T) (hf : headOf (m + c % 128 * W) = s.extract p (p + k + 1) ↔ ¬ (c = 0 ∧ 0 < k)) (h : (!(headOf T).toList == (s.extract p ((p : Int) + (k : Int) + 1).toNat).toList) = true) : c = 0 ∧ 0 < k := by
  rw [hT] at hf
  rw [toNat3] at h
  apply Classical.byContradiction
  intro hn
  rw [hf.2 hn] at h
  simp at h
theorem form_yes {s : ByteArray} {p k T c m W : Nat} (hT : m + c % 128 * W = T) (hf : headOf (m + c % 128 * W) = s.extract p (p + k + 1) ↔ ¬ (c = 0 ∧ 0 < k)) (h : (!(headOf T).toList == (s.extract p ((p : Int) + (k : Int) + 1).toNat).toList) = false) : ¬ (c = 0 ∧ 0 < k) := by
  rw [hT] at hf
  rw [toNat3] at h
  refine hf.1 ?_
  have h1 : (headOf T).toList = (s.extract p (p + k + 1)).toList := by simpa using h
  rw [ByteArray.toList_eq, ByteArray.toList_eq] at h1
  exact Go.WideShapes.bytes_inj h1
theorem of_drew {w w1 : World} (h : Below w.drew.heap.size w.drew w1) : Below w.heap.size w w1 := (Below.refl _ w).drew.trans h
theorem wrapId {x : Int} (h0 : 0 ≤ x) (h1 : x ≤ 1000000000000) : IntKind.i64.wrap x = x := by
  simp [IntKind.wrap, IntKind.signed, IntKind.bits]
  omega
set_option maxRecDepth 100000 in
set_option maxHeartbeats 800000 in
theorem specRead_in (s : ByteArray) (p : Nat) (w : World) (hs : s.size ≤ 1048576) (hp : p ≤ s.size) :
    Calls Try.prog 60 #[.string s, .int .i64 p] w fun e w' => e = .returned (rdVal s p) ∧ Below w.heap.size w w' := by
  have hB : inB p 0 s.size = true := by simp [inB]; omega
  go_enter Try.func60, Try.ntmps60
  go_wp2_with (go_at_call 40; refine (l01In_any _ _ _ _).mono ?_; rintro e w' ⟨rfl, rfl⟩)
  go_loop [7, 8, 9] (fun n q i => ∃ (k m W : Nat), k ≤ 5 ∧ p + k ≤ s.size ∧ Hid (W = 128 ^ k) ∧ W ≤ 34359738368 ∧ m < W ∧ n = .int .i64 m ∧ i = .int .i64 (p + k : Nat) ∧ q = .int .i64 W ∧ At s p k m) (fun _ _ i => s.size - (intOf i).toNat)
  case atStart => exact ⟨0, 0, 1, by omega, by omega, hide rfl, by omega, by omega, rfl, rfl, rfl, At.start s p⟩
  case round =>
    obtain ⟨k, m, W, hk, hl, HW, hW, hm, rfl, rfl, rfl, hat⟩ := hrel
    by_cases hlt : p + k < s.size
    · by_cases h5 : k < 5
      · have hW4 : W ≤ 268435456 := by rw [HW.out]; exact pow_le h5
        obtain ⟨c, hc⟩ : ∃ c : Nat, (s[p + k]).toNat = c := ⟨_, rfl⟩
        have hc1 : c < 256 := by rw [← hc]; exact (s[p + k]).toNat_lt
        have hm0 : c % 128 * W ≤ 127 * 268435456 := Nat.mul_le_mul (by omega) hW4
        have HE := hide (cast3 m c W)
        have q1 : (0 : Int) ≤ (c : Int) % 128 * (W : Int) := Int.mul_nonneg (by omega) (by omega)
        have q2 : (c : Int) % 128 * (W : Int) ≤ 34091302912 := by
          have : ((c % 128 * W : Nat) : Int) ≤ 34091302912 := by omega
          simpa using this
        clear hm0
        have HC := hide hc
        by_cases h1 : 127 < c
        · have HN := hide (at_next hat HW.out hlt h5 hc h1)
          go_wp2
          go_round
          case rel => exact ⟨k + 1, m + c % 128 * W, W * 128, by omega, by omega, hide (by rw [HW.out, Nat.pow_succ]), by omega, HN.out.2, by rw [HE.out], by go_num, by go_num, HN.out.1⟩
          case measure => simp [intOf]; omega
        · obtain ⟨T, hT⟩ : ∃ T : Nat, (m : Int) + (c : Int) % 128 * (W : Int) = T := ⟨_, (cast3 m c W).symm⟩
          have hT' : m + c % 128 * W = T := by have := cast3 m c W; omega
          have HT := hide hT'
          clear hT'
          by_cases h2 : 1000000000 < T
          · have HN := hide (at_none hat HW.out hlt h5 hc (by omega) (.inl (by have := HT.out; omega)))
            have b2 : decide ((1000000000 : Int) < (T : Int)) = true := by simp; omega
            go_wp2_with fail
            go_quiet (fail)
            go_wp2
            go_ret3
            exact ⟨ret_of HN.out, below_drewN (Below.refl _ _) _⟩
          · have HF := hide (form_eq hat HW.out hlt h5 hc (by omega))
            have b2 : decide ((1000000000 : Int) < (T : Int)) = false := by simp; omega
            have s1 : (0 : Int) ≤ (p : Int) := by omega
            have s2 : (p : Int) ≤ (p : Int) + (k : Int) + 1 := by omega
            have s3 : (p : Int) + (k : Int) + 1 ≤ (s.size : Int) := by omega
            have s4 : (0 : Int) ≤ (p : Int) + (k : Int) + 1 := by omega
            have hw : IntKind.i64.wrap ((p : Int) + (k : Int) + 1) = (p : Int) + (k : Int) + 1 := wrapId (by omega) (by omega)
            go_wp2_with fail
            go_region_held3 (fun _ => True) (trivial) ((go_at_call 51; refine (l01Var_head _ _ (by omega) (by omega)).mono ?_; rintro e w1 ⟨rfl, hb⟩))
            go_wp2
            · have hx : (!(headOf T).toList == (s.extract p ((p : Int) + (k : Int) + 1).toNat).toList) = true := by assumption
              have HN := at_none hat HW.out hlt h5 hc (by omega) (.inr (form_no HT.out HF.out hx))
              go_ret3
              exact ⟨ret_of HN, of_drew hb⟩
            · have hx : (!(headOf T).toList == (s.extract p ((p : Int) + (k : Int) + 1).toNat).toList) = false := by assumption
              have hy := form_yes HT.out HF.out hx
              have HN := at_some hat HW.out hlt h5 hc (by omega) (by have := HT.out; omega)
              rw [hT] at HN
              go_ret3
              exact ⟨ret_of HN, of_drew hb⟩
      · have HN := hide (rdVal_none (hat.out (.inr (by omega))))
        go_wp2
        go_ret3
        exact ⟨ret_of HN.out, Below.refl _ _⟩
    · have HN := hide (rdVal_none (hat.out (.inl (by omega))))
      go_wp2
      go_ret3
      exact ⟨ret_of HN.out, Below.refl _ _⟩
theorem implRead_out (s : ByteArray) (p : Int) (w : World) (_hs : s.size ≤ 1048576) (h : p < 0 ∨ (s.size : Int) < p) :
    Calls Try.prog 74 #[.string s, .int .i64 p] w fun e w' => e = .returned (.tuple #[.int .i64 0, .int .i64 0, .bool false]) ∧ w' = w := by
  by_cases h0 : p < 0
  · go_enter Try.func74, Try.ntmps74
    go_wp2
    go_ret3
    exact ⟨rfl, rfl⟩
  · have h1 : (s.size : Int) < p := by omega
    go_enter Try.func74, Try.ntmps74
    go_wp2
    go_ret3
    exact ⟨rfl, rfl⟩
theorem specRead_out (s : ByteArray) (p : Int) (w : World) (_hs : s.size ≤ 1048576) (h : p < 0 ∨ (s.size : Int) < p) :
    Calls Try.prog 60 #[.string s, .int .i64 p] w fun e w' => e = .returned (.tuple #[.int .i64 0, .int .i64 0, .bool false]) ∧ w' = w := by
  have hB : inB p 0 s.size = false := by simp [inB]; omega
  go_enter Try.func60, Try.ntmps60
  go_wp2_with (go_at_call 40; refine (l01In_any _ _ _ _).mono ?_; rintro e w' ⟨rfl, rfl⟩)
  go_ret3
  exact ⟨rfl, rfl⟩
theorem rdVal_form (s : ByteArray) (p : Nat) : ∃ (a b : Int) (c : Bool), rdVal s p = .tuple #[.int .i64 a, .int .i64 b, .bool c] := by
  unfold rdVal
  split
  · exact ⟨0, 0, false, rfl⟩
  · exact ⟨_, _, true, rfl⟩

theorem clone_any (s : ByteArray) (w : World) (h : s.size ≤ 281474976710656) :
    Calls Try.prog 69 #[.string s] w fun e w' => e = .returned (.string s) ∧ Below w.heap.size w w' := by
  go_enter Try.func69, Try.ntmps69
  go_wp2_with (go_at_call 72; refine (Try.stringslite_Clone _ _ h).mono ?_; rintro e w1 ⟨rfl, hb⟩)
  go_ret
  exact ⟨rfl, hb⟩
theorem rdF_bound (f : Nat) : ∀ (rest : List UInt8) (k n m c : Nat), rdF f rest k n = some (m, c) → m ≤ 1000000000 ∧ c ≤ k + rest.length := by
  induction f with
  | zero => intro rest k n m c h; simp [rdF] at h
  | succ f ih =>
    intro rest k n m c h
    cases rest with
    | nil => simp [rdF] at h
    | cons b r =>
      rw [rdF] at h
      split at h
      · have := ih _ _ _ _ _ h
        simp only [List.length_cons]
        omega
      · split at h
        · cases h
        · simp only [Option.some.injEq, Prod.mk.injEq] at h
          simp only [List.length_cons]
          omega
theorem rd_bound {s : ByteArray} {p n c : Nat} (hp : p ≤ s.size) (h : rd s p = some (n, c)) : n ≤ 1000000000 ∧ p + c ≤ s.size := by
  have := rdF_bound 5 _ 0 0 n c h
  have h2 : s.data.toList.length = s.size := by simp
  rw [List.length_drop, h2] at this
  omega
/-- What is answered. -/
def rsVal (s : ByteArray) (p : Nat) : Value := match rd s p with
  | none => .tuple #[.string ⟨#[]⟩, .int .i64 0, .bool false]
  | some (n, c) => if 20000 < n ∨ s.size - (p + c) < n then .tuple #[.string ⟨#[]⟩, .int .i64 0, .bool false]
      else .tuple #[.string (s.extract (p + c) (p + c + n)), .int .i64 (p + c + n : Nat), .bool true]
theorem rsVal_none {s : ByteArray} {p : Nat} (h : rd s p = none) : rsVal s p = .tuple #[.string ⟨#[]⟩, .int .i64 0, .bool false] := by simp [rsVal, h]
theorem rsVal_bad {s : ByteArray} {p n c : Nat} (h : rd s p = some (n, c)) (h1 : 20000 < n ∨ s.size - (p + c) < n) : rsVal s p = .tuple #[.string ⟨#[]⟩, .int .i64 0, .bool false] := by simp [rsVal, h, h1]
theorem rsVal_good {s : ByteArray} {p n c : Nat} (h : rd s p = some (n, c)) (h1 : ¬ (20000 < n ∨ s.size - (p + c) < n)) : rsVal s p = .tuple #[.string (s.extract (p + c) (p + c + n)), .int .i64 (p + c + n : Nat), .bool true] := by simp [rsVal, h, h1]
theorem specRS_in (s : ByteArray) (p : Nat) (w : World) (hs : s.size ≤ 1048576) (hp : p ≤ s.size) :
    Calls Try.prog 39 #[.string s, .int .i64 p] w fun e w' => e = .returned (rsVal s p) ∧ Below w.heap.size w w' := by
  have H := fun w => specRead_in s p w hs hp
  cases hr : rd s p with
  | none =>
    rw [rdVal_none hr] at H
    have G := hide H
    have HV := hide (rsVal_none hr)
    clear H hr
    go_enter Try.func39, Try.ntmps39
    go_wp2_with (go_at_call 60; refine (G.out _).mono ?_; rintro e w1 ⟨rfl, hb⟩)
    go_ret3
    exact ⟨ret_of HV.out, hb⟩
  | some nc =>
    obtain ⟨n, c⟩ := nc
    obtain ⟨hn, hc⟩ := rd_bound hp hr
    rw [rdVal_some hr] at H
    obtain ⟨q, hq⟩ : ∃ q, p + c = q := ⟨_, rfl⟩
    have hB := fun h => rsVal_bad hr h
    have hG := fun h => rsVal_good hr h
    rw [hq] at H hc hB hG
    have G := hide H
    have HB := hide hB
    have HG := hide hG
    clear H hr hq hB hG
    by_cases h1 : 20000 < n
    · go_enter Try.func39, Try.ntmps39
      go_wp2_with (go_at_call 60; refine (G.out _).mono ?_; rintro e w1 ⟨rfl, hb⟩)
      go_ret3
      exact ⟨ret_of (HB.out (.inl h1)), hb⟩
    · by_cases h2 : (s.size : Int) - (q : Int) < (n : Int)
      · go_enter Try.func39, Try.ntmps39
        go_wp2_with (go_at_call 60; refine (G.out _).mono ?_; rintro e w1 ⟨rfl, hb⟩)
        go_ret3
        exact ⟨ret_of (HB.out (.inr (by omega))), hb⟩
      · have hv := HG.out (by omega)
        have e1 : ((q : Int) + (n : Int)).toNat = q + n := by omega
        have e2 : ((q + n : Nat) : Int) = (q : Int) + (n : Int) := by omega
        rw [e2] at hv
        have HV := hide hv
        clear hv e2
        go_enter Try.func39, Try.ntmps39
        go_wp2_with (go_at_call 60; refine (G.out _).mono ?_; rintro e w1 ⟨rfl, hb⟩)
        go_ret3
        exact ⟨ret_of HV.out, hb⟩
theorem implRS_in (s : ByteArray) (p : Nat) (w : World) (hs : s.size ≤ 1048576) (hp : p ≤ s.size) :
    Calls Try.prog 73 #[.string s, .int .i64 p] w fun e w' => e = .returned (rsVal s p) ∧ Below w.heap.size w w' := by
  have H := fun w => implRead_in s p w hs hp
  cases hr : rd s p with
  | none =>
    rw [rdVal_none hr] at H
    have G := hide H
    have HV := hide (rsVal_none hr)
    clear H hr
    go_enter Try.func73, Try.ntmps73
    go_wp2_with (go_at_call 74; refine (G.out _).mono ?_; rintro e w1 ⟨rfl, rfl⟩)
    go_ret3
    exact ⟨ret_of HV.out, Below.refl _ _⟩
  | some nc =>
    obtain ⟨n, c⟩ := nc
    obtain ⟨hn, hc⟩ := rd_bound hp hr
    rw [rdVal_some hr] at H
    obtain ⟨q, hq⟩ : ∃ q, p + c = q := ⟨_, rfl⟩
    have hB := fun h => rsVal_bad hr h
    have hG := fun h => rsVal_good hr h
    rw [hq] at H hc hB hG
    have G := hide H
    have HB := hide hB
    have HG := hide hG
    clear H hr hq hB hG
    by_cases h1 : 20000 < n
    · go_enter Try.func73, Try.ntmps73
      go_wp2_with (go_at_call 74; refine (G.out _).mono ?_; rintro e w1 ⟨rfl, rfl⟩)
      go_ret3
      exact ⟨ret_of (HB.out (.inl h1)), Below.refl _ _⟩
    · by_cases h2 : (s.size : Int) - (q : Int) < (n : Int)
      · go_enter Try.func73, Try.ntmps73
        go_wp2_with (go_at_call 74; refine (G.out _).mono ?_; rintro e w1 ⟨rfl, rfl⟩)
        go_ret3
        exact ⟨ret_of (HB.out (.inr (by omega))), Below.refl _ _⟩
      · have hv := HG.out (by omega)
        have e1 : ((q : Int) + (n : Int)).toNat = q + n := by omega
        have e2 : ((q + n : Nat) : Int) = (q : Int) + (n : Int) := by omega
        rw [e2] at hv
        have hz : (s.extract q (q + n)).size ≤ 281474976710656 := by rw [ByteArray.size_extract]; omega
        have HV := hide hv
        have HZ := hide hz
        clear hv e2 hz
        go_enter Try.func73, Try.ntmps73
        go_wp2_with (first | (go_at_call 74; refine (G.out _).mono ?_; rintro e w1 ⟨rfl, rfl⟩) | (go_at_call 69; refine (clone_any _ _ HZ.out).mono ?_; rintro e w2 ⟨rfl, hb⟩))
        go_ret3
        exact ⟨ret_of HV.out, hb⟩
theorem specRS_out (s : ByteArray) (p : Int) (w : World) (hs : s.size ≤ 1048576) (h : p < 0 ∨ (s.size : Int) < p) :
    Calls Try.prog 39 #[.string s, .int .i64 p] w fun e w' => e = .returned (.tuple #[.string ⟨#[]⟩, .int .i64 0, .bool false]) ∧ w' = w := by
  have G := hide (fun w => specRead_out s p w hs h)
  go_enter Try.func39, Try.ntmps39
  go_wp2_with (go_at_call 60; refine (G.out _).mono ?_; rintro e w' ⟨rfl, rfl⟩)
  go_ret3
  exact ⟨rfl, rfl⟩
theorem implRS_out (s : ByteArray) (p : Int) (w : World) (hs : s.size ≤ 1048576) (h : p < 0 ∨ (s.size : Int) < p) :
    Calls Try.prog 73 #[.string s, .int .i64 p] w fun e w' => e = .returned (.tuple #[.string ⟨#[]⟩, .int .i64 0, .bool false]) ∧ w' = w := by
  have G := hide (fun w => implRead_out s p w hs h)
  go_enter Try.func73, Try.ntmps73
  go_wp2_with (go_at_call 74; refine (G.out _).mono ?_; rintro e w' ⟨rfl, rfl⟩)
  go_ret3
  exact ⟨rfl, rfl⟩
theorem rsVal_form (s : ByteArray) (p : Nat) : ∃ (a : ByteArray) (b : Int) (c : Bool), rsVal s p = .tuple #[.string a, .int .i64 b, .bool c] := by
  unfold rsVal
  split
  · exact ⟨_, 0, false, rfl⟩
  · split
    · exact ⟨_, 0, false, rfl⟩
    · exact ⟨_, _, true, rfl⟩
end Go.Proofs.Ytfffiboggpjjkaa
