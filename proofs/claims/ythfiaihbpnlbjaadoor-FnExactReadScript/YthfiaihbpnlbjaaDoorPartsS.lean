/- spec.PartsOf by its contract. -/
import Derived.Test.YthfiaihbpnlbjaaDoorParts
namespace Go.Proofs.YthfiaihbpnlbjaaDoor
open Go.RowKit Kit
theorem Tryd.info9 : (Tryd.prog.info? 9).map (fun i => (i.zero, i.size, i.bytes)) = some (some (.string ⟨#[]⟩), 1, 16) := by kernel_rfl

theorem bad_ret {v : Value} {ok : Bool} {l : List ByteArray} {w w' : World} (h : ok = false ∧ l = []) (hb : Below w.heap.size w w') (hv : ROwns w' w.heap.size 9 v []) :
    ∃ v', Ending.returned (.tuple #[v, .bool false]) = .returned (.tuple #[v', .bool ok]) ∧ ROwns w' w.heap.size 9 v' (l.map Value.string) ∧ Below w.heap.size w w' := by
  obtain ⟨rfl, rfl⟩ := h
  exact ⟨v, rfl, hv, hb⟩
theorem good_ret {v : Value} {ok : Bool} {s : ByteArray} {l out : List ByteArray} {w w' : World} (ha : Ans s l ok) (h1 : s.size ≤ 600) (h2 : (∀ c ∈ s.data.toList, okB c) ∧ Lib.fields s.data.toList = out.map (·.data.toList)) (h3 : out.length ≤ 10)
    (hb : Below w.heap.size w w') (hv : ROwns w' w.heap.size 9 v (out.map Value.string)) :
    ∃ v', Ending.returned (.tuple #[v, .bool true]) = .returned (.tuple #[v', .bool ok]) ∧ ROwns w' w.heap.size 9 v' (l.map Value.string) ∧ Below w.heap.size w w' := by
  obtain ⟨rfl, hl⟩ := ha.1 ⟨h1, h2.1, by rw [h2.2]; simpa using h3⟩
  have : l = out := lists_inj (by rw [hl, h2.2])
  subst this
  exact ⟨v, rfl, hv, hb⟩

set_option maxRecDepth 100000 in
set_option maxHeartbeats 1600000 in
theorem specParts_in (s : ByteArray) (w : World) (l : List ByteArray) (ok : Bool) (ha : Ans s l ok) (hs : s.size ≤ 600) :
    Calls Tryd.prog 10 #[.string s] w fun e w' => ∃ v, e = .returned (.tuple #[v, .bool ok]) ∧ ROwns w' w.heap.size 9 v (l.map Value.string) ∧ Below w.heap.size w w' := by
  have HA := hide ha
  have b0 : decide ((600 : Int) < (s.size : Int)) = false := by simp; omega
  clear ha
  go_enter Tryd.func10, Tryd.ntmps10
  go_wp2
  go_loopw [4, 5, 6] (fun v b i wr => ∃ (k bb : Nat) (out : List ByteArray), k ≤ s.size + 1 ∧ bb ≤ k ∧ i = .int .i64 k ∧ b = .int .i64 bb ∧ out.length ≤ k ∧ PAt s k bb out ∧ ROwns wr w.heap.size 9 v (out.map Value.string) ∧ Below w.heap.size w wr) (fun _ _ i _ => s.size + 1 - (intOf i).toNat)
  case atStart => exact ⟨0, 0, [], by omega, by omega, rfl, rfl, by simp, PAt.start s, ROwns.lit0 w _ 9 (Nat.le_refl _), (Below.refl _ _).alloc (Nat.le_refl _) _⟩
  case round =>
    obtain ⟨k, bb, out, hk, hbk, rfl, rfl, hol, hat, hown, hb⟩ := hrel
    have hsz := hb.size
    by_cases hlt : k < s.size
    · obtain ⟨c, hc⟩ : ∃ c : Nat, (s[k]).toNat = c := ⟨_, rfl⟩
      have hc1 : c < 256 := by rw [← hc]; exact (s[k]).toNat_lt
      by_cases hpl : 32 ≤ c ∧ c ≤ 126
      · have hp1 := hpl.1
        have hp2 := hpl.2
        by_cases hbl : c = 32
        · have bq : ((c : Int) != 32) = false := by simp; omega
          by_cases hbb : bb < k
          · have HN := hide (hat.endPart hlt hc hbl hbb)
            clear hbl hpl hat
            have t1 : (0 : Int) ≤ (bb : Int) := by omega
            have t2 : (bb : Int) ≤ (k : Int) := by omega
            have t3 : (k : Int) ≤ (s.size : Int) := by omega
            go_wp2_with (at_builtin; refine wpList_append_cell w wr rfl _ _ 28 rfl w.heap.size 9 Tryd.underlying28 (.string ⟨#[]⟩) 16 Tryd.info9 rfl (by decide) _ (out.map Value.string) (by rfl) hown hb hsz (.string (s.extract bb k)) rfl (by rfl) (by simp; omega) ?_; intro v' w1 R1 R2 _)
            have R3 : ROwns w1 w.heap.size 9 v' ((out ++ [s.extract bb k]).map Value.string) := by simpa using R1
            have HR := hide R3
            clear R1 R3 hown
            go_wp2
            go_roundw
            case rel => exact ⟨k + 1, k + 1, _, by omega, by omega, by go_num, by go_num, by simp; omega, HN.out, HR.out, R2⟩
            case measure => simp [intOf]; omega
          · have HN := hide (hat.skip hlt hc hbl hbb)
            clear hbl hpl hat
            go_wp2
            go_roundw
            case rel => exact ⟨k + 1, k + 1, out, by omega, by omega, by go_num, by go_num, by omega, HN.out, hown, hb⟩
            case measure => simp [intOf]; omega
        · have bq : ((c : Int) != 32) = true := by simp; omega
          have HN := hide (hat.more hlt hc (by omega) hp2)
          clear hbl hpl hat
          go_wp2
          go_roundw
          case rel => exact ⟨k + 1, bb, out, by omega, by omega, by go_num, by go_num, by omega, HN.out, hown, hb⟩
          case measure => simp [intOf]; omega
      · have HN := hide (ans_bad HA.out hlt hc hpl)
        by_cases hp1 : 32 ≤ c
        · have hp2 : 126 < c := by omega
          clear hpl
          go_wp2
          go_ret2
          exact bad_ret HN.out (hb.alloc hsz _) (ROwns.lit0 wr _ 9 hsz)
        · clear hpl
          go_wp2
          go_ret2
          exact bad_ret HN.out (hb.alloc hsz _) (ROwns.lit0 wr _ 9 hsz)
    · by_cases hend : k = s.size
      · by_cases hbb : bb < k
        · have HN := hide (hat.last hend hbb)
          have t1 : (0 : Int) ≤ (bb : Int) := by omega
          have t2 : (bb : Int) ≤ (k : Int) := by omega
          have t3 : (k : Int) ≤ (s.size : Int) := by omega
          clear hat
          have HE := hide hend
          have hend' : s.size ≤ k := by omega
          clear hend
          go_wp2_with (at_builtin; refine wpList_append_cell w wr rfl _ _ 28 rfl w.heap.size 9 Tryd.underlying28 (.string ⟨#[]⟩) 16 Tryd.info9 rfl (by decide) _ (out.map Value.string) (by rfl) hown hb hsz (.string (s.extract bb k)) rfl (by rfl) (by simp; omega) ?_; intro v' w1 R1 R2 _)
          have R3 : ROwns w1 w.heap.size 9 v' ((out ++ [s.extract bb k]).map Value.string) := by simpa using R1
          have HR := hide R3
          clear R1 R3 hown
          go_wp2
          go_roundw
          case rel => exact ⟨k + 1, k + 1, _, by omega, by omega, by go_num, by go_num, by simp; omega, HN.out, HR.out, R2⟩
          case measure => simp [intOf]; omega
        · have HN := hide (hat.lastSkip hend hbb)
          have hend' : s.size ≤ k := by omega
          have hk' : k ≤ s.size := by omega
          clear hat hend
          go_wp2
          go_roundw
          case rel => exact ⟨k + 1, k + 1, out, by omega, by omega, by go_num, by go_num, by omega, HN.out, hown, hb⟩
          case measure => simp [intOf]; omega
      · have hD := hat.done (by omega)
        have hgt : s.size < k := by omega
        obtain ⟨a1, c1, hv, -⟩ := hown.form
        rw [List.length_map] at hv
        subst hv
        have hol2 : out.length ≤ 601 := by omega
        have HD := hide hD
        have HO := hide hown
        clear hat hend hown hD
        by_cases h10 : 10 < out.length
        · have HN := hide (ans_many HA.out (by rw [HD.out.2]; simpa using h10))
          go_wp2
          go_ret2
          exact bad_ret HN.out (hb.alloc hsz _) (ROwns.lit0 wr _ 9 hsz)
        · go_wp2
          go_ret2
          exact good_ret HA.out hs HD.out (by omega) hb HO.out
theorem specParts_long (s : ByteArray) (w : World) (l : List ByteArray) (ok : Bool) (ha : Ans s l ok) (hs : 600 < s.size) :
    Calls Tryd.prog 10 #[.string s] w fun e w' => ∃ v, e = .returned (.tuple #[v, .bool ok]) ∧ ROwns w' w.heap.size 9 v (l.map Value.string) ∧ Below w.heap.size w w' := by
  have HN := hide (ans_long ha hs)
  clear ha
  go_enter Tryd.func10, Tryd.ntmps10
  go_wp2
  go_ret2
  exact bad_ret HN.out ((Below.refl _ _).alloc (Nat.le_refl _) _) (ROwns.lit0 w _ 9 (Nat.le_refl _))
end Go.Proofs.YthfiaihbpnlbjaaDoor
