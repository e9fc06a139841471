
/- Copies: impl.newList, strings.Clone, spec.l03Copy, spec.l04Copy by their contracts. -/
import Derived.Test.YtggjillpfclajaaGreatGa
import Derived.Test.YtggjillpfclajaaGreatRg
import Derived.Test.YtggjillpfclajaaGreatTs
import Derived.Test.YtggjillpfclajaaGreatShelf
namespace Go.Proofs.YtggjillpfclajaaGreat
open Go.RowKit Kit
set_option maxRecDepth 100000 in
theorem newB_any (v : Value) (xs : List Bool) (w : World) (h : RFl w v xs) (hl : xs.length ≤ 1048576) :
    Calls Tryz.prog 74 #[v] w fun e w' => ∃ u, e = .returned u ∧ ROwns w' w.heap.size 4 u (fc xs) ∧ Below w.heap.size w w' := by
  have HR := hide h
  have HL : Hid (xs.length ≤ 100000000000) := Nat.le_trans hl (by decide)
  clear h hl
  go_enter Tryz.func74, Tryz.ntmps74
  go_wp2_with (at_builtin; refine wpList_append_copy _ rfl _ _ 22 rfl w.heap.size 4 Tryz.underlying22 _ 1 1 Tryz.i4 rfl (by decide) (by decide) _ rfl (World.ownsRow_nil _ _ _ _) (Nat.le_refl _) _ rfl xs.length (fc xs) HR.out.rc (by rw [fc_length, Nat.mul_one]) (fc_one xs) HL.out ?_; intro v' w1 R1 R2 R3)
  have HX : Hid (ROwns w1 w.heap.size 4 v' (fc xs) ∧ Below w.heap.size w w1) := ⟨by unfold ROwns; rw [fc_length]; exact R1, below_of_append (Below.refl _ _) (Nat.le_refl _) R2 (fun k hk => by cases hk)⟩
  clear R1 R2 R3
  go_wp2
  go_ret
  exact ⟨_, rfl, HX.out.1, HX.out.2⟩
set_option maxRecDepth 100000 in
theorem newI_any (v : Value) (xs : List Int) (w : World) (h : RInts w v xs) (hl : xs.length ≤ 1048576) :
    Calls Tryz.prog 88 #[v] w fun e w' => ∃ u, e = .returned u ∧ ROwns w' w.heap.size 3 u (ic xs) ∧ Below w.heap.size w w' := by
  have HR := hide h
  have HL : Hid (xs.length ≤ 100000000000) := Nat.le_trans hl (by decide)
  clear h hl
  go_enter Tryz.func88, Tryz.ntmps88
  go_wp2_with (at_builtin; refine wpList_append_copy _ rfl _ _ 47 rfl w.heap.size 3 Tryz.underlying47 _ 1 8 Tryz.i3 rfl (by decide) (by decide) _ rfl (World.ownsRow_nil _ _ _ _) (Nat.le_refl _) _ rfl xs.length (ic xs) HR.out.rc (by rw [ic_length, Nat.mul_one]) (ic_one xs) HL.out ?_; intro v' w1 R1 R2 R3)
  have HX : Hid (ROwns w1 w.heap.size 3 v' (ic xs) ∧ Below w.heap.size w w1) := ⟨by unfold ROwns; rw [ic_length]; exact R1, below_of_append (Below.refl _ _) (Nat.le_refl _) R2 (fun k hk => by cases hk)⟩
  clear R1 R2 R3
  go_wp2
  go_ret
  exact ⟨_, rfl, HX.out.1, HX.out.2⟩
set_option maxRecDepth 100000 in
theorem newS_any (v : Value) (xs : List Sl) (w : World) (h : RSl w v xs) (hl : xs.length ≤ 1048576) :
    Calls Tryz.prog 97 #[v] w fun e w' => ∃ u, e = .returned u ∧ SOwns w' w.heap.size 132 u xs ∧ Below w.heap.size w w' := by
  have HR := hide h
  have HL : Hid (xs.length ≤ 100000000000) := Nat.le_trans hl (by decide)
  clear h hl
  go_enter Tryz.func97, Tryz.ntmps97
  go_wp2_with (at_builtin; refine wpList_append_copy _ rfl _ _ 113 rfl w.heap.size 132 Tryz.underlying113 _ 2 24 Tryz.i132 rfl (by decide) (by decide) _ rfl (World.ownsRow_nil _ _ _ _) (Nat.le_refl _) _ rfl xs.length (sc xs) HR.out.rc (sc_length xs) (sc_one xs) HL.out ?_; intro v' w1 R1 R2 R3)
  have HX : Hid (SOwns w1 w.heap.size 132 v' xs ∧ Below w.heap.size w w1) := ⟨R1, below_of_append (Below.refl _ _) (Nat.le_refl _) R2 (fun k hk => by cases hk)⟩
  clear R1 R2 R3
  go_wp2
  go_ret
  exact ⟨_, rfl, HX.out.1, HX.out.2⟩
theorem clone_any (s : ByteArray) (w : World) (h : s.size ≤ 281474976710656) :
    Calls Tryz.prog 87 #[.string s] w fun e w' => e = .returned (.string s) ∧ Below w.heap.size w w' := by
  go_enter Tryz.func87, Tryz.ntmps87
  go_wp2_with (go_at_call 96; refine (Tryz.stringslite_Clone _ _ h).mono ?_; rintro e w1 ⟨rfl, hb⟩)
  go_ret
  exact ⟨rfl, hb⟩
end Go.Proofs.YtggjillpfclajaaGreat
