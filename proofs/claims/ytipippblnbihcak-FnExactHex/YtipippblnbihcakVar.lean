/- Contracts of spec.l01In, spec.l01Var, spec.VarText and impl.VarText: the bytes of a number in 0 .. 1000000000. -/
import Derived.Test.YtipippblnbihcakRows
import Derived.Test.YtipippblnbihcakKit
import Derived.WalkSpells
import Derived.WalkLawsBesides
namespace Go.Proofs.Ytipippblnbihcak
open Go.RowKit Kit

theorem Try.info5 : (Try.prog.info? 5).map (fun i => (i.zero, i.size, i.bytes)) = some (some (.int .u8 0), 1, 1) := by kernel_rfl

theorem vb_big {n f m : Nat} {pre : List UInt8} (h : 127 < m) (hv : vb n = pre ++ vbF (f + 1) m) : vb n = (pre ++ [hiB m]) ++ vbF f (m / 128) := by
  rw [hv, vbF_big f m h]; simp
theorem vb_small {n f m : Nat} {pre : List UInt8} (h : m ≤ 127) (hv : vb n = pre ++ vbF f m) : pre ++ [loB m] = vb n := by
  rw [hv, vbF_small f m h]
theorem byte_big (m : Nat) : (m : Int) % 128 + 128 = ((hiB m).toNat : Int) := by
  simp [hiB, UInt8.toNat_ofNat']; omega
theorem byte_small (m : Nat) (h : m ≤ 127) : (m : Int) = ((loB m).toNat : Int) := by
  simp [loB, UInt8.toNat_ofNat']; omega

set_option maxHeartbeats 400000 in
theorem l01Var_any (n : Int) (w : World) (h0 : 0 ≤ n) (h1 : n ≤ 1000000000) :
    Calls Try.prog 19 #[.int .i64 n] w fun e w' => e = .returned (.string ⟨(vb n.toNat).toArray⟩) ∧ Below w.heap.size w w' := by
  go_enter Try.func19, Try.ntmps19
  go_wp2
  go_loopw [0, 3] (fun x v wr => ∃ (f m : Nat) (pre : List UInt8), x = .int .i64 m ∧ (m : Int) ≤ 1000000000 ∧ m < 128 ^ (f + 1) ∧ pre.length + f = 9 ∧ vb n.toNat = pre ++ vbF f m ∧ Owns wr w.heap.size 5 v pre ∧ Below w.heap.size w wr) (fun x _ _ => (intOf x).toNat)
  case atStart => 
    exact ⟨9, n.toNat, [], by rw [Int.toNat_of_nonneg h0], by omega, by omega, rfl, rfl, Owns.lit0 w _ 5 (Nat.le_refl _), (Below.refl _ _).alloc (Nat.le_refl _) _⟩
  case round =>
    obtain ⟨f, m, pre, rfl, hm, hf, hp, HV, hown, hb⟩ := hrel
    have HV' : Hid (vb n.toNat = pre ++ vbF f m) := HV
    clear HV
    have hsz := hb.size
    by_cases hlt : 127 < m
    · go_wp2_with (at_builtin; refine wpList_append_byte w rfl _ _ 34 rfl w.heap.size 5 Try.underlying34 Try.info5 _ pre rfl (hown.alloc _) (hb.alloc hsz _) ?c1 wr.heap.size rfl (hiB m) ((m : Int) % 128 + 128) (byte_big m) ?c2 ?c3 ?_)
      case c1 => simp; omega
      case c2 => simp
      case c3 => omega
      intro v' w1 R1 R2 _
      cases f with
      | zero => simp at hf; omega
      | succ f =>
      clear hown
      go_wp2
      go_roundw
      case rel => exact ⟨f, m / 128, pre ++ [hiB m], by go_num, by omega, by rw [Nat.pow_succ] at hf; omega, by simp; omega, vb_big hlt HV'.out, R1, R2⟩
      case measure => simp [intOf]; omega
    · go_wp2_with (at_builtin; refine wpList_append_byte w rfl _ _ 34 rfl w.heap.size 5 Try.underlying34 Try.info5 _ pre rfl (hown.alloc _) (hb.alloc hsz _) ?d1 wr.heap.size rfl (loB m) (m : Int) (byte_small m (by omega)) ?d2 ?d3 ?_)
      case d1 => simp; omega
      case d2 => simp
      case d3 => omega
      intro v' w1 R1 R2 _
      have hcv := conv_own (P := Try.prog) 34 9 5 Try.underlying34 Try.underlying5 Try.underlying9 R1
      have e := vb_small (by omega) HV'.out
      rw [e] at hcv
      clear hown R1 e
      go_wp2
      go_ret
      exact ⟨rfl, R2⟩

set_option maxHeartbeats 400000 in
theorem implVar_yes (n : Int) (w : World) (h0 : 0 ≤ n) (h1 : n ≤ 1000000000) :
    Calls Try.prog 9 #[.int .i64 n] w fun e w' => e = .returned (.tuple #[.string ⟨(vb n.toNat).toArray⟩, .bool true]) ∧ Below w.heap.size w w' := by
  go_enter Try.func9, Try.ntmps9
  go_wp2
  go_loopw [0, 4] (fun x v wr => ∃ (f m : Nat) (pre : List UInt8), x = .int .i64 m ∧ (m : Int) ≤ 1000000000 ∧ m < 128 ^ (f + 1) ∧ pre.length + f = 9 ∧ vb n.toNat = pre ++ vbF f m ∧ Owns wr w.heap.size 5 v pre ∧ Below w.heap.size w wr) (fun x _ _ => (intOf x).toNat)
  case atStart => 
    exact ⟨9, n.toNat, [], by rw [Int.toNat_of_nonneg h0], by omega, by omega, rfl, rfl, Owns.nil _ _ _, Below.refl _ _⟩
  case round =>
    obtain ⟨f, m, pre, rfl, hm, hf, hp, HV, hown, hb⟩ := hrel
    have HV' : Hid (vb n.toNat = pre ++ vbF f m) := HV
    clear HV
    have hsz := hb.size
    by_cases hlt : 127 < m
    · go_wp2_with (at_builtin; refine wpList_append_byte w rfl _ _ 34 rfl w.heap.size 5 Try.underlying34 Try.info5 _ pre rfl (hown.alloc _) (hb.alloc hsz _) ?c1 wr.heap.size rfl (hiB m) ((m : Int) % 128 + 128) (byte_big m) ?c2 ?c3 ?_)
      case c1 => simp; omega
      case c2 => simp
      case c3 => omega
      intro v' w1 R1 R2 _
      cases f with
      | zero => simp at hf; omega
      | succ f =>
      clear hown
      go_wp2
      go_roundw
      case rel => exact ⟨f, m / 128, pre ++ [hiB m], by go_num, by omega, by rw [Nat.pow_succ] at hf; omega, by simp; omega, vb_big hlt HV'.out, R1, R2⟩
      case measure => simp [intOf]; omega
    · go_wp2_with (at_builtin; refine wpList_append_byte w rfl _ _ 34 rfl w.heap.size 5 Try.underlying34 Try.info5 _ pre rfl (hown.alloc _) (hb.alloc hsz _) ?d1 wr.heap.size rfl (loB m) (m : Int) (byte_small m (by omega)) ?d2 ?d3 ?_)
      case d1 => simp; omega
      case d2 => simp
      case d3 => omega
      intro v' w1 R1 R2 _
      have hcv := conv_own (P := Try.prog) 34 9 5 Try.underlying34 Try.underlying5 Try.underlying9 R1
      have e := vb_small (by omega) HV'.out
      rw [e] at hcv
      clear hown R1 e
      go_wp2
      go_ret2
      exact ⟨rfl, R2⟩

theorem implVar_no (n : Int) (w : World) (h : n < 0 ∨ 1000000000 < n) :
    Calls Try.prog 9 #[.int .i64 n] w fun e w' => e = .returned (.tuple #[.string ⟨#[]⟩, .bool false]) ∧ w' = w := by
  by_cases h0 : n < 0
  · go_enter Try.func9, Try.ntmps9
    go_wp2
    go_ret2
    exact ⟨rfl, rfl⟩
  · have h1 : 1000000000 < n := by omega
    go_enter Try.func9, Try.ntmps9
    go_wp2
    go_ret2
    exact ⟨rfl, rfl⟩

def inB (x a b : Int) : Bool := decide (a ≤ x ∧ x ≤ b)
theorem inB_true {x a b : Int} (h : inB x a b = true) : a ≤ x ∧ x ≤ b := of_decide_eq_true h
theorem inB_false {x a b : Int} (h : inB x a b = false) : x < a ∨ b < x := by
  have := of_decide_eq_false h
  omega
theorem l01In_any (x a b : Int) (w : World) :
    Calls Try.prog 18 #[.int .i64 x, .int .i64 a, .int .i64 b] w fun e w' => e = .returned (.bool (inB x a b)) ∧ w' = w := by
  by_cases h0 : a ≤ x
  · by_cases h1 : x ≤ b
    · have hv : inB x a b = true := by simp [inB, h0, h1]
      have HV := hide hv
      clear hv
      go_enter Try.func18, Try.ntmps18
      go_wp2
      go_ret
      exact ⟨by rw [HV.out]; simp, rfl⟩
    · have hv : inB x a b = false := by simp [inB, h1]
      have HV := hide hv
      clear hv
      go_enter Try.func18, Try.ntmps18
      go_wp2
      go_ret
      exact ⟨by rw [HV.out]; simp, rfl⟩
  · have hv : inB x a b = false := by simp [inB, h0]
    have HV := hide hv
    clear hv
    go_enter Try.func18, Try.ntmps18
    go_wp2
    go_ret
    exact ⟨by rw [HV.out]; simp, rfl⟩
end Go.Proofs.Ytipippblnbihcak
