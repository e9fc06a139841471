
/- impl.rowsOf by its contract. -/
import Derived.Test.YtajollmmpdkhbaaCom
import Derived.Test.YtajollmmpdkhbaaBFl
namespace Go.Proofs.Ytajollmmpdkhbaa.Kit
open Go.RowKit
theorem bc_set (l : List UInt8) (j : Nat) (b : UInt8) : (bc l).set j (.int .u8 (b.toNat : Int)) = bc (l.set j b) := by
  unfold bc
  rw [List.map_set]
theorem made_bytes (w : World) (l : List Bool) (m : Nat) (h : m ≤ 8388608) (e : TypeId) : ROwns (w.alloc (.cells (madeCells #[.int .u8 0] m) e)) w.heap.size e (.slice (some ⟨w.heap.size, 0, none⟩) m m) (bc (rowsK l 0 m)) := by
  have e1 : (madeCells #[.int .u8 0] m).toList = bc (rowsK l 0 m) := by rw [toList_madeCells_one, rowsK_zero]; simp [bc]
  have e2 : (madeCells #[.int .u8 0] m).size = m := by rw [← Array.length_toList, e1, bc_length, rowsK_length]
  have := ROwns.lit w w.heap.size e (madeCells #[.int .u8 0] m) (Nat.le_refl _) (by rw [e2]; unfold maxLen; omega)
  rwa [e1, e2] at this
/-- One more flag in its row. -/
theorem rows_next {wr : World} {base g m : Nat} {e : TypeId} {j : Nat} {l : List Bool} (hj : j < l.length) (hm : j / 8 < m) (ht : l[j] = true) (h : ROwns wr base e (.slice (some ⟨g, 0, none⟩) m m) (bc (rowsK l j m))) :
    ROwns (wr.setCell ⟨g, j / 8, none⟩ (.int .u8 ((byteN (rowK l j (j / 8)) + 2 ^ (j % 8) : Nat) : Int))) base e (.slice (some ⟨g, 0, none⟩) m m) (bc (rowsK l (j + 1) m)) ∧ wr.cell? ⟨g, j / 8, none⟩ = some (.int .u8 (byteN (rowK l j (j / 8)) : Nat)) ∧ wr.frozen? ⟨g, j / 8, none⟩ = false ∧ g < wr.heap.size := by
  have hml : (bc (rowsK l j m)).length = m := by rw [bc_length, rowsK_length]
  obtain ⟨g2, c2, e1, q2, q3, -, q5, -⟩ := h.at (j / 8) (by omega)
  rw [row_before l j m hm] at q2
  simp only [Value.slice.injEq, Option.some.injEq, Addr.mk.injEq] at e1
  obtain ⟨⟨rfl, -, -⟩, -, rfl⟩ := e1
  have O1 : ROwns wr base e (.slice (some ⟨g, 0, none⟩) (bc (rowsK l j m)).length m) (bc (rowsK l j m)) := by rw [hml]; exact h
  have O2 := O1.stored (j / 8) (.int .u8 ((bB (rowK l (j + 1) (j / 8))).toNat : Int))
  rw [bc_set, rowsK_set l j m hj, hml, row_behind l j hj ht] at O2
  exact ⟨O2.1, q2, q3, q5⟩
end Go.Proofs.Ytajollmmpdkhbaa.Kit
namespace Go.Proofs.Ytajollmmpdkhbaa
open Go.RowKit Kit

set_option maxRecDepth 100000 in
set_option maxHeartbeats 1600000 in
theorem rowsOf_any (v : Value) (l : List Bool) (m : Nat) (w : World) (hv : RFl w v l) (hl : l.length = 8 * m) (hm : m ≤ 1000) :
    Calls Try.prog 99 #[v] w fun e w' => e = .returned (.string ⟨(rowsK l l.length m).toArray⟩) ∧ Below w.heap.size w w' := by
  obtain ⟨a, c, rfl, hc⟩ := hv
  have HC := hide hc
  clear hc
  have mk := make_by m (by omega)
  have q8 : (l.length : Int) / 8 = (m : Int) := by omega
  have HL := hide hl
  have l1 : l.length ≤ 8000 := by omega
  clear hl
  go_enter Try.func99, Try.ntmps99
  go_wp2
  go_loopw [12] (fun i wr => ∃ j : Nat, j ≤ l.length ∧ i = .int .i64 j ∧ ROwns wr w.heap.size 5 (.slice (some ⟨w.heap.size, 0, none⟩) m m) (bc (rowsK l j m)) ∧ Below w.heap.size w wr) (fun i _ => l.length - (intOf i).toNat)
  case atStart => exact ⟨0, Nat.zero_le _, rfl, made_bytes w l m (by omega) 5, (Below.refl _ w).alloc (Nat.le_refl _) _⟩
  case round =>
    obtain ⟨j, hj, rfl, hown, hb⟩ := hrel
    by_cases hlt : j < l.length
    · obtain ⟨g, off, rfl, hg, k1⟩ := HC.out j hlt
      have q1 : wr.cell? ⟨g, off + j, none⟩ = some (.bool l[j]) := (hb.cell (p := ⟨g, off + j, none⟩) hg).trans k1
      obtain ⟨t, ht⟩ : ∃ t, l[j] = t := ⟨_, rfl⟩
      rw [ht] at q1
      have j0 : (0 : Int) ≤ (j : Int) := by omega
      have j1 : (j : Int) < (l.length : Int) := by omega
      cases t with
      | true =>
        have hdm : j / 8 < m := by have := HL.out; omega
        obtain ⟨O2, q2, q3, q4⟩ := rows_next hlt hdm ht hown
        have hrl := row_lt l j hlt
        obtain ⟨d, hd⟩ : ∃ d, j / 8 = d := ⟨_, rfl⟩
        obtain ⟨r, hr⟩ : ∃ r, j % 8 = r := ⟨_, rfl⟩
        have d1 : (j : Int) / 8 = (d : Int) := by omega
        have r1 : (j : Int) % 8 = (r : Int) := by omega
        have r2 : r < 8 := by omega
        rw [hd] at O2 q2 q3 hdm hrl
        rw [hr] at O2 hrl
        obtain ⟨b, hb0⟩ : ∃ b, byteN (rowK l j d) = b := ⟨_, rfl⟩
        rw [hb0] at O2 q2 hrl
        have C := hide (with_any b r wr r2 hrl)
        obtain ⟨z, hz⟩ : ∃ z : Int, ((b + 2 ^ r : Nat) : Int) = z := ⟨_, rfl⟩
        rw [hz] at O2 C
        have HO := hide (And.intro O2 (hb.setCell (p := ⟨w.heap.size, d, none⟩) (Nat.le_refl _) (.int .u8 z)))
        have d2 : (0 : Int) ≤ (d : Int) := by omega
        have d3 : (d : Int) < (m : Int) := by omega
        clear hown hb O2 ht hz hb0 hrl mk hd hr k1 q8
        go_wp2_with fail
        refine C.out.mono ?_
        rintro e w1 ⟨rfl, rfl⟩
        go_wp2
        go_roundw
        case rel => exact ⟨j + 1, by omega, by go_num, HO.out.1, HO.out.2⟩
        case measure => simp [intOf]; omega
      | false =>
        have HR := hide (And.intro (show ROwns wr w.heap.size 5 (.slice (some ⟨w.heap.size, 0, none⟩) m m) (bc (rowsK l (j + 1) m)) by rw [rowsK_skip l j m hlt ht]; exact hown) hb)
        clear hown hb ht mk k1 q8
        go_wp2
        go_roundw
        case rel => exact ⟨j + 1, by omega, by go_num, HR.out.1, HR.out.2⟩
        case measure => simp [intOf]; omega
    · have hjl : j = l.length := by omega
      have O2 : Owns wr w.heap.size 5 (.slice (some ⟨w.heap.size, 0, none⟩) m m) (rowsK l j m) := by
        have := hown
        unfold ROwns at this
        unfold Owns
        rwa [bc_length] at this
      have hcv := conv_own (P := Try.prog) 106 9 5 Try.underlying106 Try.underlying5 Try.underlying9 O2
      have HR := hide hb
      have HJ := hide hjl
      clear hown hb hjl mk O2 q8
      go_wp2
      go_ret
      exact ⟨by rw [HJ.out]; rfl, HR.out⟩
end Go.Proofs.Ytajollmmpdkhbaa
