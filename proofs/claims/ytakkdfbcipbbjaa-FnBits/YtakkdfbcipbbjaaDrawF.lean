/- spec.DrawFirstFree by its contract: at most nine flags in a block of their own. -/
import Derived.Test.YtakkdfbcipbbjaaFl
import Derived.Test.YtakkdfbcipbbjaaDraw
namespace Go.Proofs.Ytakkdfbcipbbjaa
open Go.RowKit Kit
theorem Drew.refl {w0 w : World} {c len cap : Nat} {a : Option Addr} (h : Cur 60 w0 w c a len cap) : Drew w0 w w c a len cap := ⟨h, grownBy_below (Below.refl _ _) _⟩
theorem Drew.below {w0 w w' w2 : World} {c len cap : Nat} {a : Option Addr} (h : Drew w0 w w' c a len cap) (hc : c < w.heap.size) (hb : Below w'.heap.size w' w2) : Drew w0 w w2 c a len cap := by
  have h1 := h.1.2.1.size
  have h2 := h.2.size
  refine ⟨⟨h.1.1, h.1.2.1.trans (hb.mono h1), ?_⟩, grownBy_trans h.2 (grownBy_below hb _)⟩
  obtain ⟨i, x, hk, hi⟩ := h.1.2.2
  exact ⟨i, x, by rw [hb.block c (by omega)]; exact hk, hi⟩
/-- Behind an append to what a call owns above w. -/
theorem Drew.above {w0 w w' w2 : World} {c len cap : Nat} {a : Option Addr} (h : Drew w0 w w' c a len cap) (hc : c < w.heap.size) (hw : w0.heap.size ≤ w.heap.size) (hb : Below w.heap.size w' w2) : Drew w0 w w2 c a len cap := by
  refine ⟨⟨h.1.1, ⟨hb.os.trans h.1.2.1.os, hb.tape.trans h.1.2.1.tape, hb.output.trans h.1.2.1.output, Nat.le_trans h.1.2.1.size hb.size, fun k hk => (hb.block k (by omega)).trans (h.1.2.1.block k hk)⟩, ?_⟩, ⟨hb.os.trans h.2.os, hb.tape.trans h.2.tape, hb.output.trans h.2.output, Nat.le_trans h.2.size hb.size, fun k hk hne => (hb.block k hk).trans (h.2.block k hk hne)⟩⟩
  obtain ⟨i, x, hk, hi⟩ := h.1.2.2
  exact ⟨i, x, by rw [hb.block c hc]; exact hk, hi⟩

set_option maxRecDepth 100000 in
set_option maxHeartbeats 1600000 in
theorem drawF_any (w0 : World) (a : Option Addr) (len cap : Nat) (hcode : CodeIs w0 a len) (hlen : len ≤ 1048576) :
    Calls Try.prog 17 #[.slice a len cap] w0 fun e w' => ∃ (v : Value) (xs : List Bool), e = .returned v ∧ ROwns w' w0.heap.size 4 v (fc xs) ∧ xs.length ≤ 9 ∧ Below w0.heap.size w0 w' := by
  have HO := hide hcode
  clear hcode
  go_enter Try.func17, Try.ntmps17
  go_wp2_with fail
  refine (new_any w0 a len cap HO.out hlen).mono ?_
  rintro e w ⟨rfl, hcur, hcw⟩
  have HC := hide hcur
  clear hcur
  go_wp2
  go_loopw [4, 5] (fun v i wr => ∃ (j : Nat) (pre : List Bool), j ≤ 9 ∧ i = .int .i64 j ∧ pre.length = j ∧ ROwns wr w.heap.size 4 v (fc pre) ∧ Drew w0 w wr w0.heap.size a len cap) (fun _ i _ => 9 - (intOf i).toNat)
  case atStart => exact ⟨0, [], Nat.zero_le _, rfl, rfl, ROwns.lit0 w _ 4 (Nat.le_refl _), (Drew.refl HC.out).alloc hcw _⟩
  case round =>
    obtain ⟨j, pre, hj, rfl, hl, hown, hd⟩ := hrel
    have HL := hide hl
    have HD := hide hd
    have HOW := hide hown
    have hl2 : (fc pre).length ≤ 1000000000000 := by rw [fc_length]; omega
    have hsz : w.heap.size ≤ wr.heap.size := hd.2.size
    clear hl hd hown
    go_wp2_with fail
    refine (below_any w0 wr w0.heap.size a len cap 9 HO.out hlen HD.out.cur (by decide) (by decide)).mono ?_
    rintro e w1 ⟨x, hx, rfl, hd1⟩
    have HD1 := hide (HD.out.trans hd1)
    have HOW1 := hide (HOW.out.grown hd1.2 (fun k hk hc => by have := (HOW.out.lt k hk).1; cases hc; omega))
    clear hd1 HOW HD
    by_cases hlt : j < x
    · have b1 : decide ((j : Int) < (x : Int)) = true := by simp; omega
      go_wp2_with fail
      refine (once_any w0 w1 w0.heap.size a len cap 4 HO.out hlen HD1.out.cur (by decide) (by decide)).mono ?_
      rintro e w2 ⟨y, rfl, hd2⟩
      obtain ⟨t, ht⟩ : ∃ t, (y == 0) = t := ⟨_, rfl⟩
      rw [ht]
      clear ht
      have HD2 := hide (HD1.out.trans hd2)
      have hown1 : ROwns w2 w.heap.size 4 _ (fc pre) := HOW1.out.grown hd2.2 (fun k hk hc => by have := (HOW1.out.lt k hk).1; cases hc; omega)
      have hsz1 : w.heap.size ≤ w2.heap.size := HD2.out.2.size
      clear hd2 HOW1 HD1
      go_wp2_with (at_builtin; refine wpList_append_cell w2 w2 rfl _ _ 24 rfl w.heap.size 4 Try.u24 (.bool false) 1 Try.i4 rfl (by decide) _ (fc pre) (by rfl) hown1 (Below.refl _ _) hsz1 (.bool (!t)) rfl (by rfl) hl2 ?_; intro v' w3 R1 R2 R3)
      have HR := hide (HD2.out.above hcw (by have := HC.out.2.1.size; omega) R2)
      have RO : ROwns w3 w.heap.size 4 v' (fc (pre ++ [!t])) := by rw [fc_append]; exact R1
      have HRO := hide RO
      clear R2 R3 hown1 RO R1
      go_wp2
      go_roundw
      case rel => exact ⟨j + 1, _, by omega, by go_num, by have := HL.out; simp; omega, HRO.out, HR.out⟩
      case measure => simp [intOf]; omega
    · have b1 : decide ((j : Int) < (x : Int)) = false := by simp; omega
      go_wp2
      go_ret
      exact ⟨_, _, rfl, HOW1.out.base_le (by have := HC.out.2.1.size; omega), by have := HL.out; omega, HD1.out.1.2.1⟩
end Go.Proofs.Ytakkdfbcipbbjaa
