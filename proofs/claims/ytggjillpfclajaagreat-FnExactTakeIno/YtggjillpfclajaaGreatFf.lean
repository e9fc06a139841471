/- FirstFree, and the mark of unit 0, by their contracts. -/
import Derived.Test.YtggjillpfclajaaGreatBFl
import Derived.Test.YtggjillpfclajaaGreatMz
namespace Go.Proofs.YtggjillpfclajaaGreat.Kit
open Go.RowKit
/-- The place of the first false, and 1; 0 without one. -/
def ff : List Bool → Nat
  | [] => 0
  | b :: r => if b then (if ff r = 0 then 0 else ff r + 1) else 1
theorem ff_at (l : List Bool) (j : Nat) (h : j < l.length) (hf : l[j] = false) (ha : ∀ (i : Nat) (hi : i < j), l[i] = true) : ff l = j + 1 := by
  induction l generalizing j with
  | nil => simp at h
  | cons b r ih =>
    cases j with
    | zero => simp at hf; simp [ff, hf]
    | succ j =>
      have h0 : b = true := ha 0 (by omega)
      have h1 := ih j (by simpa using h) (by simpa using hf) (fun i hi => by have := ha (i + 1) (by omega); simpa using this)
      simp [ff, h0, h1]
theorem ff_none (l : List Bool) (ha : ∀ (i : Nat) (hi : i < l.length), l[i] = true) : ff l = 0 := by
  induction l with
  | nil => rfl
  | cons b r ih =>
    have h0 : b = true := ha 0 (by simp)
    have h1 := ih (fun i hi => by have := ha (i + 1) (by simp; omega); simpa using this)
    simp [ff, h0, h1]
theorem ff_or (l : List Bool) : (ff l = 0 ∧ ∀ (i : Nat) (hi : i < l.length), l[i] = true) ∨ ∃ (k : Nat) (hk : k < l.length), ff l = k + 1 ∧ l[k] = false ∧ ∀ (i : Nat) (hi : i < k), l[i] = true := by
  induction l with
  | nil => left; exact ⟨rfl, fun i hi => by simp at hi⟩
  | cons b r ih =>
    cases b with
    | false => right; exact ⟨0, by simp, rfl, rfl, fun i hi => by omega⟩
    | true =>
      rcases ih with ⟨e, h⟩ | ⟨k, hk, e, h1, h2⟩
      · left
        refine ⟨by simp [ff, e], fun i hi => ?_⟩
        cases i with
        | zero => rfl
        | succ i => simpa using h i (by simpa using hi)
      · right
        refine ⟨k + 1, by simpa using hk, by simp [ff, e], by simpa using h1, fun i hi => ?_⟩
        cases i with
        | zero => rfl
        | succ i => simpa using h2 i (by omega)
theorem ff_le (l : List Bool) : ff l ≤ l.length := by
  rcases ff_or l with ⟨e, _⟩ | ⟨k, hk, e, _⟩ <;> omega
end Go.Proofs.YtggjillpfclajaaGreat.Kit
namespace Go.Proofs.YtggjillpfclajaaGreat
open Go.RowKit Kit

theorem fc_set (l : List Bool) (k : Nat) (b : Bool) : fc (l.set k b) = (fc l).set k (.bool b) := by simp [fc, List.map_set]
set_option maxRecDepth 100000 in
set_option maxHeartbeats 1600000 in
theorem firstFreeI_any (v : Value) (l : List Bool) (w : World) (hv : RFl w v l) (hl : l.length ≤ 1048576) :
    Calls Tryz.prog 59 #[v] w fun e w' => e = .returned (.int .i64 (ff l : Nat)) ∧ w = w' := by
  obtain ⟨a, c, rfl, ha⟩ := hv
  have HA := hide ha
  clear ha
  go_enter Tryz.func59, Tryz.ntmps59
  go_wp2
  go_loopw [7] (fun i wr => ∃ j : Nat, j ≤ l.length ∧ i = .int .i64 j ∧ Hid (∀ (i : Nat) (h1 : i < j) (h2 : i < l.length), l[i] = true) ∧ w = wr) (fun i _ => l.length - (intOf i).toNat)
  case atStart => exact ⟨0, Nat.zero_le _, rfl, hide (fun i h1 h2 => by omega), rfl⟩
  case round =>
    obtain ⟨j, hj, rfl, HT, rfl⟩ := hrel
    by_cases hlt : j < l.length
    · obtain ⟨g, off, rfl, _, k1⟩ := HA.out j hlt
      obtain ⟨t, ht⟩ : ∃ t, l[j] = t := ⟨_, rfl⟩
      rw [ht] at k1
      have j0 : (0 : Int) ≤ (j : Int) := by omega
      have j1 : (j : Int) < (l.length : Int) := by omega
      cases t with
      | true =>
        have HT2 : Hid (∀ (i : Nat) (h1 : i < j + 1) (h2 : i < l.length), l[i] = true) := hide (fun i h1 h2 => by
          by_cases e : i = j
          · subst e; exact ht
          · exact HT.out i (by omega) h2)
        clear ht
        go_wp2
        go_roundw
        case rel => exact ⟨j + 1, by omega, by go_num, HT2, trivial⟩
        case measure => simp [intOf]; omega
      | false =>
        have HF := hide (ff_at l j hlt ht (fun i hi => HT.out i hi (by omega)))
        clear ht
        go_wp2
        go_ret
        exact ⟨ret_of (show Value.int .i64 _ = Value.int .i64 _ by rw [HF.out]; rfl), rfl⟩
    · have HF := hide (ff_none l (fun i hi => HT.out i (by omega) hi))
      go_wp2
      go_ret
      exact ⟨by rw [HF.out]; rfl, rfl⟩
set_option maxRecDepth 100000 in
set_option maxHeartbeats 1600000 in
theorem firstFreeS_any (v : Value) (l : List Bool) (w : World) (hv : RFl w v l) (hl : l.length ≤ 1048576) :
    Calls Tryz.prog 28 #[v] w fun e w' => e = .returned (.int .i64 (ff l : Nat)) ∧ w = w' := by
  obtain ⟨a, c, rfl, ha⟩ := hv
  have HA := hide ha
  clear ha
  go_enter Tryz.func28, Tryz.ntmps28
  go_wp2
  go_loopw [3] (fun i wr => ∃ j : Nat, j ≤ l.length ∧ i = .int .i64 j ∧ Hid (∀ (i : Nat) (h1 : i < j) (h2 : i < l.length), l[i] = true) ∧ w = wr) (fun i _ => l.length - (intOf i).toNat)
  case atStart => exact ⟨0, Nat.zero_le _, rfl, hide (fun i h1 h2 => by omega), rfl⟩
  case round =>
    obtain ⟨j, hj, rfl, HT, rfl⟩ := hrel
    by_cases hlt : j < l.length
    · obtain ⟨g, off, rfl, _, k1⟩ := HA.out j hlt
      obtain ⟨t, ht⟩ : ∃ t, l[j] = t := ⟨_, rfl⟩
      rw [ht] at k1
      have j0 : (0 : Int) ≤ (j : Int) := by omega
      have j1 : (j : Int) < (l.length : Int) := by omega
      cases t with
      | true =>
        have HT2 : Hid (∀ (i : Nat) (h1 : i < j + 1) (h2 : i < l.length), l[i] = true) := hide (fun i h1 h2 => by
          by_cases e : i = j
          · subst e; exact ht
          · exact HT.out i (by omega) h2)
        clear ht
        go_wp2
        go_roundw
        case rel => exact ⟨j + 1, by omega, by go_num, HT2, trivial⟩
        case measure => simp [intOf]; omega
      | false =>
        have HF := hide (ff_at l j hlt ht (fun i hi => HT.out i hi (by omega)))
        clear ht
        go_wp2
        go_ret
        exact ⟨ret_of (show Value.int .i64 _ = Value.int .i64 _ by rw [HF.out]; rfl), rfl⟩
    · have HF := hide (ff_none l (fun i hi => HT.out i (by omega) hi))
      go_wp2
      go_ret
      exact ⟨by rw [HF.out]; rfl, rfl⟩
set_option maxRecDepth 100000 in
set_option maxHeartbeats 1600000 in
theorem mark29_any (b : Nat) (u v iv bv pv : Value) (a : Option Addr) (c : Nat) (fs : List Bool) (nx : Int) (w : World) (h : AtC w b 40 #[u, v, iv, bv, .slice a fs.length c, pv, .int .i64 nx]) (ho : ROwns w 0 4 (.slice a fs.length c) (fc fs)) :
    Calls Tryz.prog 29 #[.pointer (some ⟨b, 0, none⟩), .int .i64 0] w fun e w' => e = .returned (.tuple #[]) ∧ ROwns w' 0 4 (.slice a fs.length c) (fc (fs.set 0 true)) ∧ w.grownBy w' (Value.slice a fs.length c).ownBlock := by
  have x4 : w.cell? ⟨b, 4, none⟩ = some (.slice a fs.length c) := h.cell 4
  have HO := hide ho
  clear ho h
  by_cases hl : 0 < fs.length
  · obtain ⟨g, cap, e1, k1, k2, k3, k4⟩ := HO.out.at 0 (by rw [fc_length]; exact hl)
    rw [fc_length] at e1
    simp only [Value.slice.injEq, true_and] at e1
    obtain ⟨rfl, rfl⟩ := e1
    have k1' : w.cell? ⟨g, 0, none⟩ = some (.bool fs[0]) := k1.trans (by simp [fc, hl])
    generalize fs[0] = t0 at k1'
    clear k1
    have HS := hide (ROwns.stored (l := fc fs) (g := g) (cap := c) (by rw [fc_length]; exact HO.out) 0 (.bool true))
    have hl1 : (0 : Int) < (fs.length : Int) := by omega
    have hd : decide ((0 : Int) < (fs.length : Int)) = true := decide_eq_true hl1
    clear HO
    go_enter Tryz.func29, Tryz.ntmps29
    go_wp2
    go_end0
    have q := HS.out.1
    rw [fc_length, ← fc_set] at q
    exact ⟨rfl, q, HS.out.2⟩
  · have hl1 : ¬ (0 : Int) < (fs.length : Int) := by omega
    have hd : decide ((0 : Int) < (fs.length : Int)) = false := decide_eq_false hl1
    have hfs : fs = [] := List.length_eq_zero_iff.1 (by omega)
    have HF := hide hfs
    clear hfs
    go_enter Tryz.func29, Tryz.ntmps29
    go_wp2
    go_end0
    have e := HF.out
    refine ⟨rfl, ?_, grownBy_below (Below.refl _ _) _⟩
    rw [show fs.set 0 true = fs by rw [e]; rfl]
    exact HO.out
set_option maxRecDepth 100000 in
set_option maxHeartbeats 1600000 in
theorem mark60_any (b : Nat) (u v iv bv pv : Value) (a : Option Addr) (c : Nat) (fs : List Bool) (nx : Int) (w : World) (h : AtC w b 40 #[u, v, iv, bv, .slice a fs.length c, pv, .int .i64 nx]) (ho : ROwns w 0 4 (.slice a fs.length c) (fc fs)) :
    Calls Tryz.prog 60 #[.pointer (some ⟨b, 0, none⟩), .int .i64 0] w fun e w' => e = .returned (.tuple #[]) ∧ ROwns w' 0 4 (.slice a fs.length c) (fc (fs.set 0 true)) ∧ w.grownBy w' (Value.slice a fs.length c).ownBlock := by
  have x4 : w.cell? ⟨b, 4, none⟩ = some (.slice a fs.length c) := h.cell 4
  have HO := hide ho
  clear ho h
  by_cases hl : 0 < fs.length
  · obtain ⟨g, cap, e1, k1, k2, k3, k4⟩ := HO.out.at 0 (by rw [fc_length]; exact hl)
    rw [fc_length] at e1
    simp only [Value.slice.injEq, true_and] at e1
    obtain ⟨rfl, rfl⟩ := e1
    have k1' : w.cell? ⟨g, 0, none⟩ = some (.bool fs[0]) := k1.trans (by simp [fc, hl])
    generalize fs[0] = t0 at k1'
    clear k1
    have HS := hide (ROwns.stored (l := fc fs) (g := g) (cap := c) (by rw [fc_length]; exact HO.out) 0 (.bool true))
    have hl1 : (0 : Int) < (fs.length : Int) := by omega
    have hd : decide ((0 : Int) < (fs.length : Int)) = true := decide_eq_true hl1
    clear HO
    go_enter Tryz.func60, Tryz.ntmps60
    go_wp2
    go_end0
    have q := HS.out.1
    rw [fc_length, ← fc_set] at q
    exact ⟨rfl, q, HS.out.2⟩
  · have hl1 : ¬ (0 : Int) < (fs.length : Int) := by omega
    have hd : decide ((0 : Int) < (fs.length : Int)) = false := decide_eq_false hl1
    have hfs : fs = [] := List.length_eq_zero_iff.1 (by omega)
    have HF := hide hfs
    clear hfs
    go_enter Tryz.func60, Tryz.ntmps60
    go_wp2
    go_end0
    have e := HF.out
    refine ⟨rfl, ?_, grownBy_below (Below.refl _ _) _⟩
    rw [show fs.set 0 true = fs by rw [e]; rfl]
    exact HO.out
end Go.Proofs.YtggjillpfclajaaGreat
