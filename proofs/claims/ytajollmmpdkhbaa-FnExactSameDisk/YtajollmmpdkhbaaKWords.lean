
/- Contracts of the words' functions at this seat: l01In, l01Var, VarText, ShortText, ReadVar, ReadShort, Clone. -/
import Derived.Test.YtajollmmpdkhbaaCom
import Derived.Test.YtajollmmpdkhbaaRows
import Derived.Test.YtajollmmpdkhbaaKRd
import Derived.Deep.RegionWith
import Derived.Deep.QuietTactic
import Derived.BigQuiet
import Derived.Deep.RegionHeld3
namespace Go.Proofs.Ytajollmmpdkhbaa
open Go.RowKit Kit

theorem Try.info5 : (Try.prog.info? 5).map (fun i => (i.zero, i.size, i.bytes)) = some (some (.int .u8 0), 1, 1) := by kernel_rfl
theorem vb_big {n f m : Nat} {pre : List UInt8} (h : 127 < m) (hv : vb n = pre ++ vbF (f + 1) m) : vb n = (pre ++ [hiB m]) ++ vbF f (m / 128) := by
  rw [hv, vbF_big f m h]; simp
theorem vb_small {n f m : Nat} {pre : List UInt8} (h : m ≤ 127) (hv : vb n = pre ++ vbF f m) : pre ++ [loB m] = vb n := by
  rw [hv, vbF_small f m h]
theorem byte_big (m : Nat) : (m : Int) % 128 + 128 = ((hiB m).toNat : Int) := by
  simp [hiB, UInt8.toNat_ofNat']; omega
theorem byte_small (m : Nat) (h : m ≤ 127) : (m : Int) = ((loB m).toNat : Int) := by
  simp [loB, UInt8.toNat_ofNat']; omega
set_option maxHeartbeats 400000 in
theorem l01Var_any (n : Int) (w : World) (h0 : 0 ≤ n) (h1 : n ≤ 1000000000) :
    Calls Try.prog 98 #[.int .i64 n] w fun e w' => e = .returned (.string ⟨(vb n.toNat).toArray⟩) ∧ Below w.heap.size w w' := by
  go_enter Try.func98, Try.ntmps98
  go_wp2
  go_loopw [0, 3] (fun x v wr => ∃ (f m : Nat) (pre : List UInt8), x = .int .i64 m ∧ (m : Int) ≤ 1000000000 ∧ m < 128 ^ (f + 1) ∧ pre.length + f = 9 ∧ vb n.toNat = pre ++ vbF f m ∧ Owns wr w.heap.size 5 v pre ∧ Below w.heap.size w wr) (fun x _ _ => (intOf x).toNat)
  case atStart => 
    exact ⟨9, n.toNat, [], by rw [Int.toNat_of_nonneg h0], by omega, by omega, rfl, rfl, Owns.lit0 w _ 5 (Nat.le_refl _), (Below.refl _ _).alloc (Nat.le_refl _) _⟩
  case round =>
    obtain ⟨f, m, pre, rfl, hm, hf, hp, HV, hown, hb⟩ := hrel
    have HV' : Hid (vb n.toNat = pre ++ vbF f m) := HV
    clear HV
    have hsz := hb.size
    by_cases hlt : 127 < m
    · go_wp2_with (at_builtin; refine wpList_append_byte w rfl _ _ 106 rfl w.heap.size 5 Try.underlying106 Try.info5 _ pre rfl (hown.alloc _) (hb.alloc hsz _) ?c1 wr.heap.size rfl (hiB m) ((m : Int) % 128 + 128) (byte_big m) ?c2 ?c3 ?_)
      case c1 => simp; omega
      case c2 => simp
      case c3 => omega
      intro v' w1 R1 R2 _
      cases f with
      | zero => simp at hf; omega
      | succ f =>
      clear hown
      go_wp2
      go_roundw
      case rel => exact ⟨f, m / 128, pre ++ [hiB m], by go_num, by omega, by rw [Nat.pow_succ] at hf; omega, by simp; omega, vb_big hlt HV'.out, R1, R2⟩
      case measure => simp [intOf]; omega
    · go_wp2_with (at_builtin; refine wpList_append_byte w rfl _ _ 106 rfl w.heap.size 5 Try.underlying106 Try.info5 _ pre rfl (hown.alloc _) (hb.alloc hsz _) ?d1 wr.heap.size rfl (loB m) (m : Int) (byte_small m (by omega)) ?d2 ?d3 ?_)
      case d1 => simp; omega
      case d2 => simp
      case d3 => omega
      intro v' w1 R1 R2 _
      have hcv := conv_own (P := Try.prog) 106 9 5 Try.underlying106 Try.underlying5 Try.underlying9 R1
      have e := vb_small (by omega) HV'.out
      rw [e] at hcv
      clear hown R1 e
      go_wp2
      go_ret
      exact ⟨rfl, R2⟩
set_option maxHeartbeats 400000 in
theorem implVar_yes (n : Int) (w : World) (h0 : 0 ≤ n) (h1 : n ≤ 1000000000) :
    Calls Try.prog 108 #[.int .i64 n] w fun e w' => e = .returned (.tuple #[.string ⟨(vb n.toNat).toArray⟩, .bool true]) ∧ Below w.heap.size w w' := by
  go_enter Try.func108, Try.ntmps108
  go_wp2
  go_loopw [0, 4] (fun x v wr => ∃ (f m : Nat) (pre : List UInt8), x = .int .i64 m ∧ (m : Int) ≤ 1000000000 ∧ m < 128 ^ (f + 1) ∧ pre.length + f = 9 ∧ vb n.toNat = pre ++ vbF f m ∧ Owns wr w.heap.size 5 v pre ∧ Below w.heap.size w wr) (fun x _ _ => (intOf x).toNat)
  case atStart => 
    exact ⟨9, n.toNat, [], by rw [Int.toNat_of_nonneg h0], by omega, by omega, rfl, rfl, Owns.nil _ _ _, Below.refl _ _⟩
  case round =>
    obtain ⟨f, m, pre, rfl, hm, hf, hp, HV, hown, hb⟩ := hrel
    have HV' : Hid (vb n.toNat = pre ++ vbF f m) := HV
    clear HV
    have hsz := hb.size
    by_cases hlt : 127 < m
    · go_wp2_with (at_builtin; refine wpList_append_byte w rfl _ _ 106 rfl w.heap.size 5 Try.underlying106 Try.info5 _ pre rfl (hown.alloc _) (hb.alloc hsz _) ?c1 wr.heap.size rfl (hiB m) ((m : Int) % 128 + 128) (byte_big m) ?c2 ?c3 ?_)
      case c1 => simp; omega
      case c2 => simp
      case c3 => omega
      intro v' w1 R1 R2 _
      cases f with
      | zero => simp at hf; omega
      | succ f =>
      clear hown
      go_wp2
      go_roundw
      case rel => exact ⟨f, m / 128, pre ++ [hiB m], by go_num, by omega, by rw [Nat.pow_succ] at hf; omega, by simp; omega, vb_big hlt HV'.out, R1, R2⟩
      case measure => simp [intOf]; omega
    · go_wp2_with (at_builtin; refine wpList_append_byte w rfl _ _ 106 rfl w.heap.size 5 Try.underlying106 Try.info5 _ pre rfl (hown.alloc _) (hb.alloc hsz _) ?d1 wr.heap.size rfl (loB m) (m : Int) (byte_small m (by omega)) ?d2 ?d3 ?_)
      case d1 => simp; omega
      case d2 => simp
      case d3 => omega
      intro v' w1 R1 R2 _
      have hcv := conv_own (P := Try.prog) 106 9 5 Try.underlying106 Try.underlying5 Try.underlying9 R1
      have e := vb_small (by omega) HV'.out
      rw [e] at hcv
      clear hown R1 e
      go_wp2
      go_ret2
      exact ⟨rfl, R2⟩
def inB (x a b : Int) : Bool := decide (a ≤ x ∧ x ≤ b)
theorem inB_true {x a b : Int} (h : inB x a b = true) : a ≤ x ∧ x ≤ b := of_decide_eq_true h
theorem inB_false {x a b : Int} (h : inB x a b = false) : x < a ∨ b < x := by
  have := of_decide_eq_false h
  omega
theorem l01In_any (x a b : Int) (w : World) :
    Calls Try.prog 45 #[.int .i64 x, .int .i64 a, .int .i64 b] w fun e w' => e = .returned (.bool (inB x a b)) ∧ w' = w := by
  by_cases h0 : a ≤ x
  · by_cases h1 : x ≤ b
    · have hv : inB x a b = true := by simp [inB, h0, h1]
      have HV := hide hv
      clear hv
      go_enter Try.func45, Try.ntmps45
      go_wp2
      go_ret
      exact ⟨by rw [HV.out]; simp, rfl⟩
    · have hv : inB x a b = false := by simp [inB, h1]
      have HV := hide hv
      clear hv
      go_enter Try.func45, Try.ntmps45
      go_wp2
      go_ret
      exact ⟨by rw [HV.out]; simp, rfl⟩
  · have hv : inB x a b = false := by simp [inB, h0]
    have HV := hide hv
    clear hv
    go_enter Try.func45, Try.ntmps45
    go_wp2
    go_ret
    exact ⟨by rw [HV.out]; simp, rfl⟩

/-- The bytes of a length, as a string. -/
def headOf (n : Nat) : ByteArray := ⟨(vb n).toArray⟩
theorem headOf_size (n : Nat) : (headOf n).size ≤ 10 := by
  have := vbF_len 9 n
  simp only [headOf, ByteArray.size, vb, List.size_toArray]
  omega
theorem l01Var_head (n : Int) (w : World) (h0 : 0 ≤ n) (h1 : n ≤ 1000000000) :
    Calls Try.prog 98 #[.int .i64 n] w fun e w' => e = .returned (.string (headOf n.toNat)) ∧ Below w.heap.size w w' := l01Var_any n w h0 h1
theorem implVar_head (n : Int) (w : World) (h0 : 0 ≤ n) (h1 : n ≤ 1000000000) :
    Calls Try.prog 108 #[.int .i64 n] w fun e w' => e = .returned (.tuple #[.string (headOf n.toNat), .bool true]) ∧ Below w.heap.size w w' := implVar_yes n w h0 h1
theorem implShort_yes (s : ByteArray) (w : World) (h : s.size ≤ 20000) :
    Calls Try.prog 100 #[.string s] w fun e w' => e = .returned (.tuple #[.string (headOf s.size ++ s), .bool true]) ∧ Below w.heap.size w w' := by
  have hz := headOf_size s.size
  go_enter Try.func100, Try.ntmps100
  go_wp2_with (first | (go_at_call 108; refine (implVar_head _ _ (by omega) (by omega)).mono ?_; rintro e w1 ⟨rfl, hb⟩; rw [Int.toNat_natCast]))
  go_ret2
  exact ⟨rfl, hb⟩

/-- What is answered. -/
def rdVal (s : ByteArray) (p : Nat) : Value := match rd s p with
  | none => .tuple #[.int .i64 0, .int .i64 0, .bool false]
  | some (n, c) => .tuple #[.int .i64 n, .int .i64 (p + c : Nat), .bool true]
theorem rdVal_none {s : ByteArray} {p : Nat} (h : rd s p = none) : rdVal s p = .tuple #[.int .i64 0, .int .i64 0, .bool false] := by simp [rdVal, h]
theorem rdVal_some {s : ByteArray} {p n c : Nat} (h : rd s p = some (n, c)) : rdVal s p = .tuple #[.int .i64 n, .int .i64 (p + c : Nat), .bool true] := by simp [rdVal, h]
theorem pow_le {k : Nat} (h : k < 5) : 128 ^ k ≤ 268435456 := by
  have : 128 ^ k ≤ 128 ^ 4 := Nat.pow_le_pow_right (by decide) (by omega)
  simpa using this
theorem at_next {s : ByteArray} {p k m W c : Nat} (h : AtK s p k m) (hW : W = 128 ^ k) (hlt : p + k < s.size) (h5 : k < 5) (hc : (s[p + k]).toNat = c) (h1 : 127 < c) :
    AtK s p (k + 1) (m + c % 128 * W) ∧ m + c % 128 * W < W * 128 := by
  subst hW hc
  have hn := h.next hlt h5 (by omega)
  exact ⟨hn, by have := hn.lt; rwa [Nat.pow_succ] at this⟩
theorem at_none {s : ByteArray} {p k m W c : Nat} (h : AtK s p k m) (hW : W = 128 ^ k) (hlt : p + k < s.size) (h5 : k < 5) (hc : (s[p + k]).toNat = c) (h1 : c ≤ 127) (h2 : 1000000000 < m + c % 128 * W ∨ (c = 0 ∧ 0 < k)) :
    rdVal s p = .tuple #[.int .i64 0, .int .i64 0, .bool false] := by
  subst hW hc
  refine rdVal_none ?_
  rw [h.stop hlt h5 (by omega), if_pos h2]
theorem at_some {s : ByteArray} {p k m W c : Nat} (h : AtK s p k m) (hW : W = 128 ^ k) (hlt : p + k < s.size) (h5 : k < 5) (hc : (s[p + k]).toNat = c) (h1 : c ≤ 127) (h2 : ¬ (1000000000 < m + c % 128 * W ∨ (c = 0 ∧ 0 < k))) :
    rdVal s p = .tuple #[.int .i64 ((m : Int) + (c : Int) % 128 * (W : Int)), .int .i64 ((p : Int) + (k : Int) + 1), .bool true] := by
  subst hW hc
  have e := h.stop hlt h5 (by omega)
  rw [if_neg h2] at e
  rw [rdVal_some e]
  have e1 : ((m + (s[p + k]).toNat % 128 * 128 ^ k : Nat) : Int) = (m : Int) + ((s[p + k]).toNat : Int) % 128 * ((128 ^ k : Nat) : Int) := by
    rw [Int.natCast_add, Int.natCast_mul, Int.natCast_emod]; rfl
  rw [e1]
  simp only [Int.natCast_add]
  rw [show (p : Int) + ((k : Int) + ((1 : Nat) : Int)) = (p : Int) + (k : Int) + 1 by omega]
theorem cast3 (m c W : Nat) : ((m + c % 128 * W : Nat) : Int) = (m : Int) + (c : Int) % 128 * (W : Int) := by simp
theorem form_eq {s : ByteArray} {p k m W c : Nat} (h : AtK s p k m) (hW : W = 128 ^ k) (hlt : p + k < s.size) (h5 : k < 5) (hc : (s[p + k]).toNat = c) (h1 : c ≤ 127) :
    headOf (m + c % 128 * W) = s.extract p (p + k + 1) ↔ ¬ (c = 0 ∧ 0 < k) := by
  subst hW hc
  rw [← h.form hlt h5 (by omega)]
  constructor
  · intro e; rw [← e]; rfl
  · intro e
    unfold headOf
    rw [e]
theorem toNat3 (p k : Nat) : ((p : Int) + (k : Int) + 1).toNat = p + k + 1 := by omega
theorem form_no {s : ByteArray} {p k T c m W : Nat} (hT : m + c % 128 * W = T) (hf : headOf (m + c % 128 * W) = s.extract p (p + k + 1) ↔ ¬ (c = 0 ∧ 0 < k)) (h : (!(headOf T).toList == (s.extract p ((p : Int) + (k : Int) + 1).toNat).toList) = true) : c = 0 ∧ 0 < k := by
  rw [hT] at hf
  rw [toNat3] at h
  apply Classical.byContradiction
  intro hn
  rw [hf.2 hn] at h
  simp at h
theorem form_yes {s : ByteArray} {p k T c m W : Nat} (hT : m + c % 128 * W = T) (hf : headOf (m + c % 128 * W) = s.extract p (p + k + 1) ↔ ¬ (c = 0 ∧ 0 < k)) (h : (!(headOf T).toList == (s.extract p ((p : Int) + (k : Int) + 1).toNat).toList) = false) : ¬ (c = 0 ∧ 0 < k) := by
  rw [hT] at hf
  rw [toNat3] at h
  refine hf.1 ?_
  have h1 : (headOf T).toList = (s.extract p (p + k + 1)).toList := by simpa using h
  rw [ByteArray.toList_eq, ByteArray.toList_eq] at h1
  exact Go.WideShapes.bytes_inj h1
theorem of_drew {w w1 : World} (h : Below w.drew.heap.size w.drew w1) : Below w.heap.size w w1 := (Below.refl _ w).drew.trans h
theorem wrapId {x : Int} (h0 : 0 ≤ x) (h1 : x ≤ 1000000000000) : IntKind.i64.wrap x = x := by
  simp [IntKind.wrap, IntKind.signed, IntKind.bits]
  omega
theorem rdVal_form (s : ByteArray) (p : Nat) : ∃ (a b : Int) (c : Bool), rdVal s p = .tuple #[.int .i64 a, .int .i64 b, .bool c] := by
  unfold rdVal
  split
  · exact ⟨0, 0, false, rfl⟩
  · exact ⟨_, _, true, rfl⟩

theorem rdF_bound (f : Nat) : ∀ (rest : List UInt8) (k n m c : Nat), rdF f rest k n = some (m, c) → m ≤ 1000000000 ∧ c ≤ k + rest.length := by
  induction f with
  | zero => intro rest k n m c h; simp [rdF] at h
  | succ f ih =>
    intro rest k n m c h
    cases rest with
    | nil => simp [rdF] at h
    | cons b r =>
      rw [rdF] at h
      split at h
      · have := ih _ _ _ _ _ h
        simp only [List.length_cons]
        omega
      · split at h
        · cases h
        · simp only [Option.some.injEq, Prod.mk.injEq] at h
          simp only [List.length_cons]
          omega
theorem rd_bound {s : ByteArray} {p n c : Nat} (hp : p ≤ s.size) (h : rd s p = some (n, c)) : n ≤ 1000000000 ∧ p + c ≤ s.size := by
  have := rdF_bound 5 _ 0 0 n c h
  have h2 : s.data.toList.length = s.size := by simp
  rw [List.length_drop, h2] at this
  omega
/-- What is answered. -/
def rsVal (s : ByteArray) (p : Nat) : Value := match rd s p with
  | none => .tuple #[.string ⟨#[]⟩, .int .i64 0, .bool false]
  | some (n, c) => if 20000 < n ∨ s.size - (p + c) < n then .tuple #[.string ⟨#[]⟩, .int .i64 0, .bool false]
      else .tuple #[.string (s.extract (p + c) (p + c + n)), .int .i64 (p + c + n : Nat), .bool true]
theorem rsVal_none {s : ByteArray} {p : Nat} (h : rd s p = none) : rsVal s p = .tuple #[.string ⟨#[]⟩, .int .i64 0, .bool false] := by simp [rsVal, h]
theorem rsVal_bad {s : ByteArray} {p n c : Nat} (h : rd s p = some (n, c)) (h1 : 20000 < n ∨ s.size - (p + c) < n) : rsVal s p = .tuple #[.string ⟨#[]⟩, .int .i64 0, .bool false] := by simp [rsVal, h, h1]
theorem rsVal_good {s : ByteArray} {p n c : Nat} (h : rd s p = some (n, c)) (h1 : ¬ (20000 < n ∨ s.size - (p + c) < n)) : rsVal s p = .tuple #[.string (s.extract (p + c) (p + c + n)), .int .i64 (p + c + n : Nat), .bool true] := by simp [rsVal, h, h1]
theorem rsVal_form (s : ByteArray) (p : Nat) : ∃ (a : ByteArray) (b : Int) (c : Bool), rsVal s p = .tuple #[.string a, .int .i64 b, .bool c] := by
  unfold rsVal
  split
  · exact ⟨_, 0, false, rfl⟩
  · split
    · exact ⟨_, 0, false, rfl⟩
    · exact ⟨_, _, true, rfl⟩
end Go.Proofs.Ytajollmmpdkhbaa
