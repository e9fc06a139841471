/- spec.l19Lines, impl.scriptLines by their contracts: the lines of a script. -/
import Derived.Test.YthfiaihbpnlbjaaDoorMa
import Derived.Test.YthfiaihbpnlbjaaDoorShelf
namespace Go.Proofs.YthfiaihbpnlbjaaDoor
open Go.RowKit Kit
set_option maxRecDepth 100000 in
set_option maxHeartbeats 1600000 in
theorem specLines_any (s : ByteArray) (w : World) (hs : s.size ≤ 3000) :
    Calls Tryd.prog 9 #[.string s] w fun e w' => ∃ v, e = .returned v ∧ ROwns w' w.heap.size 9 v ((lns s).map Value.string) ∧ Below w.heap.size w w' := by
  go_enter Tryd.func9, Tryd.ntmps9
  go_wp2
  go_loopw [3, 4, 5] (fun v b i wr => ∃ (k bb : Nat) (out : List ByteArray), k ≤ s.size ∧ bb ≤ k ∧ out.length ≤ k ∧ i = .int .i64 k ∧ b = .int .i64 bb ∧ Hid (LAt s k bb out) ∧ ROwns wr w.heap.size 9 v (out.map Value.string) ∧ Below w.heap.size w wr) (fun _ _ i _ => s.size - (intOf i).toNat)
  case atStart => exact ⟨0, 0, [], by omega, by omega, by simp, rfl, rfl, hide (LAt.start s), ROwns.lit0 w _ 9 (Nat.le_refl _), (Below.refl _ _).alloc (Nat.le_refl _) _⟩
  case round =>
    obtain ⟨k, bb, out, hk, hbk, hol, rfl, rfl, HL, hown, hb⟩ := hrel
    have hsz := hb.size
    by_cases hlt : k < s.size
    · obtain ⟨c, hc⟩ : ∃ c : Nat, (s[k]).toNat = c := ⟨_, rfl⟩
      have hc1 : c < 256 := by rw [← hc]; exact (s[k]).toNat_lt
      by_cases h10 : c = 10
      · have HN := hide (HL.out.cut hlt (hc.trans h10))
        have bq : ((c : Int) == 10) = true := by simp; omega
        clear h10
        have t1 : (0 : Int) ≤ (bb : Int) := by omega
        have t2 : (bb : Int) ≤ (k : Int) := by omega
        have t3 : (k : Int) ≤ (s.size : Int) := by omega
        go_wp2_with (at_builtin; refine wpList_append_cell w wr rfl _ _ 28 rfl w.heap.size 9 Tryd.underlying28 (.string ⟨#[]⟩) 16 Tryd.info9 rfl (by decide) _ (out.map Value.string) (by rfl) hown hb hsz (.string (s.extract bb k)) rfl (by rfl) (by simp; omega) ?_; intro v' w1 R1 R2 _)
        have R3 : ROwns w1 w.heap.size 9 v' ((out ++ [s.extract bb k]).map Value.string) := by simpa using R1
        have HR := hide R3
        clear R1 R3 hown
        go_wp2
        go_roundw
        case rel => exact ⟨k + 1, k + 1, _, by omega, by omega, by simp; omega, by go_num, by go_num, HN, HR.out, R2⟩
        case measure => simp [intOf]; omega
      · have HN := hide (HL.out.next hlt (by rw [hc]; exact h10))
        have bq : ((c : Int) == 10) = false := by simp; omega
        clear h10
        go_wp2
        go_roundw
        case rel => exact ⟨k + 1, bb, out, by omega, by omega, by omega, by go_num, by go_num, HN, hown, hb⟩
        case measure => simp [intOf]; omega
    · have he : k = s.size := by omega
      subst he
      have HE := hide HL.out.lines
      by_cases hbb : bb < s.size
      · rw [if_pos hbb] at HE
        have t1 : (0 : Int) ≤ (bb : Int) := by omega
        go_wp2_with (at_builtin; refine wpList_append_cell w wr rfl _ _ 28 rfl w.heap.size 9 Tryd.underlying28 (.string ⟨#[]⟩) 16 Tryd.info9 rfl (by decide) _ (out.map Value.string) (by rfl) hown hb hsz (.string (s.extract bb s.size)) rfl (by rfl) (by simp; omega) ?_; intro v' w1 R1 R2 _)
        have HR := hide R1
        clear R1 hown
        go_wp2
        go_ret
        refine ⟨_, rfl, ?_, R2⟩
        rw [HE.out]
        simpa using HR.out
      · rw [if_neg hbb] at HE
        have HR := hide hown
        clear hown
        go_wp2
        go_ret
        exact ⟨_, rfl, by rw [HE.out]; exact HR.out, hb⟩
end Go.Proofs.YthfiaihbpnlbjaaDoor
