/- impl.ShowTree by its contract. -/
import Derived.Test.YtklmaeepoijecaaSi
namespace Go.Proofs.Ytklmaeepoijecaa
open Go.RowKit Kit
theorem cells_app (a b : ByteArray) : Lib.byteCells a.data.toList ++ Lib.strCells b = Lib.byteCells (a ++ b).data.toList := by
  rw [Lib.strCells_eq, ← Lib.byteCells_append]
  simp [ByteArray.data_append]
set_option maxRecDepth 100000 in
set_option maxHeartbeats 1600000 in
theorem implShow_any (v : Value) (xs : List Nd) (w : World) (hv : RNd w v xs) (hl : xs.length + szs xs ≤ 1048576) :
    Calls Try.prog 7 #[v] w fun e w' => e = .returned (.string (showS xs)) ∧ Below w.heap.size w w' := by
  obtain ⟨a, c, rfl, hc⟩ := hv
  have HC := hide hc
  have HL := hide hl
  have hl1 : (xs.length : Int) ≤ 1048576 := by omega
  clear hc hl
  have HF := hide (Lib.fresh_isBuilder 37 5 w)
  go_enter Try.func7, Try.ntmps7
  go_wp2
  go_loopw [8] (fun i wr => ∃ (j : Nat), j ≤ xs.length ∧ i = .int .i64 j ∧ Hid (Lib.IsBuilder 37 5 w.heap.size w.heap.size (Lib.byteCells (showS (xs.take j)).data.toList) wr ∧ Below w.heap.size w wr)) (fun i _ => xs.length - (intOf i).toNat)
  case atStart => exact ⟨0, Nat.zero_le _, rfl, hide ⟨HF.out, (Below.refl _ w).alloc (Nat.le_refl _) _⟩⟩
  case round =>
    obtain ⟨j, hj, rfl, HS⟩ := hrel
    have hs : (showS (xs.take j)).size ≤ 4194304 := by
      have h1 := showS_size xs j hj
      have h2 := szs_le xs j
      have := HL.out
      omega
    have hsz : w.heap.size ≤ wr.heap.size := HS.out.2.size
    by_cases hlt : j < xs.length
    · obtain ⟨g, off, rfl, hg, m0, m1, m2, m3⟩ := HC.out j hlt
      have k0 := (HS.out.2.cell (p := ⟨g, off + j * 4, none⟩) hg).trans m0
      have k1 := (HS.out.2.cell (p := ⟨g, off + j * 4 + 1, none⟩) hg).trans m1
      have k2 := (HS.out.2.cell (p := ⟨g, off + j * 4 + 2, none⟩) hg).trans m2
      have k3 := (HS.out.2.cell (p := ⟨g, off + j * 4 + 3, none⟩) hg).trans m3
      have HP := hide (showS_step xs j hlt)
      have h3 : xs[j].1.size + xs[j].2.2.1.size + xs[j].2.2.2.size ≤ 1048576 := by
        have h4 := szs_step xs j hlt
        have h5 := szs_le xs (j + 1)
        have := HL.out
        omega
      obtain ⟨⟨x0, x1, x2, x3⟩, hx⟩ : ∃ x, xs[j] = x := ⟨_, rfl⟩
      rw [hx] at k0 k1 k2 k3 h3 HP
      have j0 : (0 : Int) ≤ (j : Int) := by omega
      have j1 : (j : Int) < (xs.length : Int) := by omega
      clear hx m0 m1 m2 m3
      simp only at k0 k1 k2 k3 h3
      have H3 := hide h3
      have HN := hide (nodeS_size (x0, x1, x2, x3))
      have HZ := hide hs
      clear h3 hs
      go_wp2_with fail
      refine (shownNode_any x0 x1 x2 x3 _ H3.out).mono ?_
      rintro e w1 ⟨rfl, B1⟩
      have HB1 : Hid (Below wr.heap.size wr w1) := hide (((Below.refl _ wr).alloc (Nat.le_refl _) _).trans (B1.mono (by simp)))
      clear B1 k0 k1 k2 k3
      have hs1 : w.heap.size ≤ w1.heap.size := Nat.le_trans hsz HB1.out.size
      have HI := hide (isb_below HS.out.1 HB1.out)
      go_wp2_with fail
      refine (writeString_any _ _ _ (nodeS (x0, x1, x2, x3)) w1 HI.out (by
        have h1 := HN.out
        have h2 := HZ.out
        have h3 := H3.out
        rw [Lib.byteCells_length]
        have h4 : (showS (xs.take j)).data.toList.length = (showS (xs.take j)).size := by rw [Array.length_toList]; rfl
        omega) hs1).mono ?_
      rintro e w2 ⟨rfl, I2, B2⟩
      have HS2 : Hid (Lib.IsBuilder 37 5 w.heap.size w.heap.size (Lib.byteCells (showS (xs.take (j + 1))).data.toList) w2 ∧ Below w.heap.size w w2) := by
        refine hide ⟨.inr ?_, (HS.out.2.trans (HB1.out.mono hsz)).trans B2⟩
        rw [HP.out, showB_node, ← cells_app]
        exact I2
      clear I2 B2
      go_wp2
      go_roundw
      case rel => exact ⟨j + 1, by omega, by go_num, HS2⟩
      case measure => simp [intOf]; omega
    · have he : j = xs.length := by omega
      subst he
      have HT := hide HS.out
      rw [List.take_of_length_le (Nat.le_refl _)] at HT
      clear HS
      go_wp2_with fail
      refine (Try.Builder_String_any w.heap.size w.heap.size _ wr HT.out.1 hsz).mono ?_
      rintro e w1 ⟨rfl, B1⟩
      have HB := hide (HT.out.2.trans B1)
      clear B1
      go_wp2
      go_ret
      exact ⟨rfl, HB.out⟩
end Go.Proofs.Ytklmaeepoijecaa
