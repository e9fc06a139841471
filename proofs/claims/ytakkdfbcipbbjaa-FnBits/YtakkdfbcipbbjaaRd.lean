/- impl.ReadBits by its contract. -/
import Derived.Test.YtakkdfbcipbbjaaTo
import Derived.Deep.RegionHeld3
namespace Go.Proofs.Ytakkdfbcipbbjaa
open Go.RowKit Kit
/-- The flags that a text of three bytes tells. -/
def readX (s : ByteArray) : List Bool := flagsL (s.extract 0 2).data.toList
def readY (s : ByteArray) : List Bool := flagsL (s.extract 2 3).data.toList
theorem readX_length (s : ByteArray) (h : s.size = 3) : (readX s).length = 16 := by
  rw [readX, flagsL_length, Array.length_toList]
  have : (s.extract 0 2).data.size = 2 := by show (s.extract 0 2).size = 2; rw [ByteArray.size_extract]; omega
  omega
theorem readY_length (s : ByteArray) (h : s.size = 3) : (readY s).length = 8 := by
  rw [readY, flagsL_length, Array.length_toList]
  have : (s.extract 2 3).data.size = 1 := by show (s.extract 2 3).size = 1; rw [ByteArray.size_extract]; omega
  omega

set_option maxHeartbeats 1600000 in
theorem implRead_len (s : ByteArray) (w : World) (h : s.size ≠ 3) (_h1 : s.size ≤ 1048576) :
    Calls Try.prog 12 #[.string s] w fun e w' => e = .returned (.tuple #[.agg #[.slice none 0 0, .slice none 0 0], .bool false]) ∧ Below w.heap.size w w' := by
  have h2 : ((s.size : Int) != 3) = true := by simp; omega
  go_enter Try.func12, Try.ntmps12
  go_wp2
  refine bodyPost_ret (v := .tuple #[.agg #[.slice none 0 0, .slice none 0 0], .bool false]) (by simp [results, go_sem]) rfl ⟨rfl, by go_grown⟩

set_option maxRecDepth 100000 in
set_option maxHeartbeats 1600000 in
theorem implRead_three (s : ByteArray) (w : World) (hs : s.size = 3) :
    Calls Try.prog 12 #[.string s] w fun e w' => ∃ u v, e = .returned (.tuple #[.agg #[u, v], .bool true]) ∧ Two w' w.heap.size u v (readX s) (readY s) ∧ Below w.heap.size w w' := by
  have C1 := hide (fun w => flagsOf_any (s.extract 0 2) w (by simp [ByteArray.size_extract]; omega))
  have C2 := hide (fun w => flagsOf_any (s.extract 2 3) w (by simp [ByteArray.size_extract]; omega))
  have e1 : flagsL (s.extract 0 2).data.toList = readX s := rfl
  have e2 : flagsL (s.extract 2 3).data.toList = readY s := rfl
  rw [e1] at C1
  rw [e2] at C2
  clear e1 e2
  obtain ⟨xs, hxs⟩ : ∃ xs, readX s = xs := ⟨_, rfl⟩
  obtain ⟨ys, hys⟩ : ∃ ys, readY s = ys := ⟨_, rfl⟩
  rw [hxs] at C1 ⊢
  rw [hys] at C2 ⊢
  clear hxs hys
  have h3 : (s.size : Int) = 3 := by omega
  have K0 : ∀ w1, Below (w.alloc (Obj.cells #[.slice none 0 0, .slice none 0 0] 26)).heap.size (w.alloc (Obj.cells #[.slice none 0 0, .slice none 0 0] 26)) w1 → AtP 26 w1 w.heap.size (.slice none 0 0) (.slice none 0 0) := fun w1 hb => (AtP.new 26 w _ _).below hb (by simp)
  have HK := hide K0
  have BB := (Below.refl (w.alloc (Obj.cells #[.slice none 0 0, .slice none 0 0] 26)).heap.size (w.alloc (Obj.cells #[.slice none 0 0, .slice none 0 0] 26))).drew
  clear K0
  go_enter Try.func12, Try.ntmps12
  go_wp2_with fail
  go_region_held3 (fun _ => True) (trivial) (first | (go_at_call_of 30 (s.extract 0 2); refine (C1.out _).mono ?_; rintro e w1 ⟨u1, rfl, O1, B1⟩; obtain ⟨s1, t1, rfl⟩ := O1.rfl.form; replace BB := BB.trans (B1.mono BB.size)) | (go_at_call_of 30 (s.extract 2 3); refine (C2.out _).mono ?_; rintro e w2 ⟨u2, rfl, O2, B2⟩; obtain ⟨s2, t2, rfl⟩ := O2.rfl.form; replace BB := BB.trans (B2.mono BB.size); obtain ⟨p0, p1⟩ := (HK.out _ BB).cells; obtain ⟨f0, f1⟩ := (HK.out _ BB).frozen; have m0 := (HK.out _ BB).lt))
  have T2 : Two w2 (w.heap.size + 1) (.slice s1 xs.length t1) (.slice s2 ys.length t2) xs ys := ⟨(O1.below B2 (Nat.le_refl _)).base_le (by simp), O2.base_le (by have := B1.size; simp at this; omega), fun k e1 e2 => by have h1 := (O1.lt k e1).2; have h2 := (O2.lt k e2).1; omega⟩
  have HT := hide (And.intro T2 (((Below.refl _ w).alloc (Nat.le_refl _) (Obj.cells #[.slice none 0 0, .slice none 0 0] 26)).trans (BB.mono (by simp))))
  clear T2 BB O1 O2 B1 B2 C1 C2 HK
  go_wp2
  refine bodyPost_ret (v := .tuple #[.agg #[.slice s1 xs.length t1, .slice s2 ys.length t2], .bool true]) (by simp [results, go_sem, p0, p1]) rfl ⟨_, _, rfl, ?_, ?_⟩
  · exact ((HT.out.1.set_other (by omega) _).set_other (by omega) _).base_le (by omega)
  · exact ((HT.out.2.setCell (by simp) _).setCell (by simp) _)
end Go.Proofs.Ytakkdfbcipbbjaa
