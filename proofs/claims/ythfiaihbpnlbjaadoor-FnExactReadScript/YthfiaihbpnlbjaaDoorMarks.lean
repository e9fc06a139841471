/- laws.markText, laws.eqStringS, laws.markStringS and laws.heldStringS by their contracts. -/
import Derived.Test.YthfiaihbpnlbjaaDoorRDec
import Derived.Test.YthfiaihbpnlbjaaDoorKitB
import Derived.Deep.QuietTactic
import Derived.BigQuiet
import Derived.Deep.RegionHeld3
namespace Go.Proofs.YthfiaihbpnlbjaaDoor.Kit
open Go.RowKit
/-- The mark of a number. -/
def mkT (k : Nat) : ByteArray := accB (109 :: decF 20 k)
/-- The marks from k on, n of them. -/
def marks (k n : Nat) : List Value := (List.range n).map fun j => Value.string (mkT (k + j))
theorem marks_length (k n : Nat) : (marks k n).length = n := by simp [marks]
theorem marks_at (k n j : Nat) (h : j < n) : (marks k n)[j]? = some (.string (mkT (k + j))) := by simp [marks, h]
/-- The first j cells are marks already. -/
def marked (k j : Nat) (l : List Value) : List Value := marks k j ++ l.drop j
theorem marked_length (k j : Nat) (l : List Value) (h : j ≤ l.length) : (marked k j l).length = l.length := by simp [marked, marks_length]; omega
theorem marked_zero (k : Nat) (l : List Value) : marked k 0 l = l := by simp [marked, marks]
theorem marked_all (k : Nat) (l : List Value) : marked k l.length l = marks k l.length := by simp [marked]
theorem marked_set (k j : Nat) (l : List Value) (h : j < l.length) : (marked k j l).set j (.string (mkT (k + j))) = marked k (j + 1) l := by
  unfold marked
  rw [List.set_append_right _ _ (by rw [marks_length]; omega), marks_length, Nat.sub_self, List.drop_eq_getElem_cons h, List.set_cons_zero]
  simp [marks, List.range_succ]
end Go.Proofs.YthfiaihbpnlbjaaDoor.Kit
namespace Go.Proofs.YthfiaihbpnlbjaaDoor
open Go.RowKit Kit

set_option maxRecDepth 100000 in
set_option maxHeartbeats 800000 in
theorem markText_any (n : Nat) (w : World) (h0 : n ≠ 0) (h1 : n ≤ 1000000000000) :
    Calls Tryd.prog 19 #[.int .i64 n] w fun e w' => e = .returned (.string (mkT n)) ∧ Below w.heap.size w w' := by
  have m109 : (⟨#[109]⟩ : ByteArray) = oneB 109 := rfl
  go_enter Tryd.func19, Tryd.ntmps19
  go_wp2
  go_loopw [0, 3] (fun x t wr => ∃ (f m : Nat) (acc : List UInt8), x = .int .i64 m ∧ m ≤ 1000000000000 ∧ m < 10 ^ f ∧ acc.length + f = 20 ∧ Hid (decF 20 n = decF f m ++ acc) ∧ t = .string (accB acc) ∧ Below w.heap.size w wr) (fun x _ _ => (intOf x).toNat)
  case atStart => exact ⟨20, n, [], rfl, h1, by omega, rfl, hide (by simp), rfl, Below.refl _ _⟩
  case round =>
    obtain ⟨f, m, acc, rfl, hm, hf, hl, HE, rfl, hb⟩ := hrel
    have hsz := hb.size
    have hz := accB_size acc
    have hz1 : (accB acc).size ≤ 20 := by omega
    clear hz
    by_cases hz : m = 0
    · have e : mkT n = accB (109 :: acc) := by unfold mkT; rw [HE.out, hz, decF_zero]; rfl
      have HF := hide e
      have HC := hide (accB_cons 109 acc)
      have hs1 := oneB_size 109
      clear e
      go_wp2
      go_ret
      exact ⟨by rw [HF.out, ← HC.out]; rfl, hb⟩
    · cases f with
      | zero => simp at hf; omega
      | succ f =>
      have HS := hide (dec_step HE.out hz)
      have HC := hide (accB_cons (figB (m % 10)) acc)
      obtain ⟨d, hd⟩ : ∃ d : Nat, (m : Int) % 10 = d := ⟨m % 10, by omega⟩
      have hd' : m % 10 = d := by omega
      rw [hd'] at HS HC
      have hd1 : d < 10 := by omega
      have hs1 := oneB_size (figB d)
      have hco := conv_one (figB d)
      have hfg := figB_lo d hd1
      rw [hfg] at hco
      clear hd' hfg
      go_wp2
      go_roundw
      case rel => exact ⟨f, m / 10, figB d :: acc, by go_num, by omega, by rw [Nat.pow_succ] at hf; omega, by simp; omega, HS, by rw [HC.out], hb.alloc hsz _⟩
      case measure => simp [intOf]; omega

theorem markText_int (x : Int) (w : World) (h0 : 0 < x) (h1 : x ≤ 1000000000000) :
    Calls Tryd.prog 19 #[.int .i64 x] w fun e w' => e = .returned (.string (mkT x.toNat)) ∧ Below w.heap.size w w' := by
  obtain ⟨n, rfl⟩ := Int.eq_ofNat_of_zero_le (show 0 ≤ x by omega)
  rw [Int.toNat_natCast]
  exact markText_any n w (by omega) (by omega)
end Go.Proofs.YthfiaihbpnlbjaaDoor
