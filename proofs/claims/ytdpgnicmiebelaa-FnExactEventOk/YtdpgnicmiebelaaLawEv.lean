/- The law of EventOk out of the contracts. -/
import Derived.Test.YtdpgnicmiebelaaEv
namespace Go.Proofs.Ytdpgnicmiebelaa.fnExactEventOk
open Go.RowKit
set_option maxRecDepth 100000
set_option maxHeartbeats 1600000
theorem walk (k : Int) (p q : ByteArray) (a : Int) (t : ByteArray) (w : World) (hp : p.size ≤ maxLen) (hq : q.size ≤ maxLen) (ht : t.size ≤ maxLen) : Calls Try.prog 3 #[evV k p q a t] w fun e w' => e = .returned (.bool true) ∧ Below w.heap.size w w' := by
  have HZ := hide (fun w => sz_any k p q a t w hp hq ht)
  have HT := hide (to_any k p q a t)
  have HS := hide (spec_any k p q a t)
  have HM := hide (impl_any k p q a t)
  generalize evB k p q a t = R at HS HM
  go_enter Try.func3, Try.ntmps3
  go_wp2_with fail
  refine (HZ.out _).mono ?_
  rintro e w1 ⟨⟨r, rfl, hr⟩, B1⟩
  obtain ⟨c0, c1, c2, c3, c4⟩ := (EvAt.new 23 w k p q a t).below B1 (by simp)
  have b1 := hide (((Below.refl _ w).alloc (Nat.le_refl _) (evO 23 k p q a t)).trans (B1.mono (by simp)))
  have E1 := hide ((EvAt.new 23 w k p q a t).below B1 (by simp))
  have s1 := hide (show w.heap.size < w1.heap.size by have := B1.size; simp at this; omega)
  clear B1
  by_cases h0 : r < 0
  · go_wp2
    go_ret
    exact ⟨rfl, b1.out⟩
  · have hs : p.size ≤ 1048576 ∧ q.size ≤ 1048576 ∧ t.size ≤ 1048576 := by rcases hr with hr | hr; exact hr; exact absurd hr h0
    have HH := hide hs
    clear hr hs hp hq ht
    go_wp2_with fail
    refine (HT.out _).mono ?_
    rintro e w2 ⟨rfl, B2⟩
    obtain ⟨c0, c1, c2, c3, c4⟩ := E1.out.below B2 s1.out
    have b2 := hide (b1.out.trans (B2.mono b1.out.size))
    have E2 := hide (E1.out.below B2 s1.out)
    have s2 := hide (Nat.lt_of_lt_of_le s1.out B2.size)
    clear B2
    go_wp2_with fail
    refine (HS.out _ HH.out.1 HH.out.2.1 HH.out.2.2).mono ?_
    rintro e w3 ⟨rfl, B3⟩
    obtain ⟨d0, d1, d2, d3, d4⟩ := E2.out.below B3 s2.out
    have b3 := hide (b2.out.trans (B3.mono b2.out.size))
    have E3 := hide (E2.out.below B3 s2.out)
    have s3 := hide (Nat.lt_of_lt_of_le s2.out B3.size)
    clear B3 c0 c1 c2 c3 c4
    go_wp2_with fail
    refine (HT.out _).mono ?_
    rintro e w4 ⟨rfl, B4⟩
    have b4 := hide (b3.out.trans (B4.mono b3.out.size))
    clear B4
    go_wp2_with fail
    refine (HM.out _ HH.out.1 HH.out.2.1 HH.out.2.2).mono ?_
    rintro e w5 ⟨rfl, B5⟩
    have b5 := hide (b4.out.trans (B5.mono b4.out.size))
    clear B5
    go_wp2
    go_ret
    exact ⟨rfl, b5.out⟩
end Go.Proofs.Ytdpgnicmiebelaa.fnExactEventOk
