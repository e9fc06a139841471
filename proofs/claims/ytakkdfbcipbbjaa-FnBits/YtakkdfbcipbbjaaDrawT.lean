/- spec.DrawBitsText and spec.DrawReadBits by their contracts; what is written is read back. -/
import Derived.Test.YtakkdfbcipbbjaaDrB
namespace Go.Proofs.Ytakkdfbcipbbjaa
open Go.RowKit Kit

set_option maxHeartbeats 1600000 in
theorem drawBT_any (w : World) (a : Option Addr) (len cap : Nat) (hcode : CodeIs w a len) (hlen : len ≤ 1048576) :
    Calls Try.prog 10 #[.slice a len cap] w fun e w' => ∃ (u v : Value) (xs ys : List Bool), e = .returned (.agg #[u, v]) ∧ RFl w' u xs ∧ RFl w' v ys ∧ xs.length ≤ 16 ∧ ys.length ≤ 9 ∧ Below w.heap.size w w' := by
  obtain ⟨W0, hW0⟩ : ∃ W0, w.alloc (Obj.cells #[.slice none 0 0, .slice none 0 0] 26) = W0 := ⟨_, rfl⟩
  have hsz : W0.heap.size = w.heap.size + 1 := by rw [← hW0]; simp
  have B0 : Below w.heap.size w W0 := by rw [← hW0]; exact (Below.refl _ w).alloc (Nat.le_refl _) _
  have K0 : AtP 26 W0 w.heap.size (.slice none 0 0) (.slice none 0 0) := by rw [← hW0]; exact AtP.new 26 w _ _
  have HO := hide (code_below hcode B0)
  have HN := hide (new_any W0 a len cap HO.out hlen)
  have HW := hide hW0
  have HB0 := hide B0
  have HK0 := hide K0
  have HZ := hide hsz
  clear hcode hW0 B0 K0 hsz
  go_enter Try.func10, Try.ntmps10
  go_wp2_with fail
  rw [HW.out]
  refine HN.out.mono ?_
  rintro e w1 ⟨rfl, hcur, hlt⟩
  have HC := hide hcur
  clear hcur
  rw [HZ.out] at HC hlt ⊢
  go_wp2_with fail
  refine (bits_any W0 w1 (w.heap.size + 1) a len cap HO.out hlen HC.out hlt).mono ?_
  rintro e w2 ⟨u, v, xs, ys, rfl, hU, hV, ⟨hA, hA'⟩, hx, hy, hD⟩
  obtain ⟨s1, t1, rfl⟩ := hU.form
  obtain ⟨s2, t2, rfl⟩ := hV.form
  have B2 := hD.1.2.1
  have hz := HZ.out
  have K2 := HK0.out.below B2 (by omega)
  obtain ⟨q0, q1⟩ := K2.cells
  obtain ⟨z0, z1⟩ := K2.frozen
  have m0 := K2.lt
  have b2 : Below w.heap.size w w2 := HB0.out.trans (B2.mono (by omega))
  have HB := hide b2
  have lw : w.heap.size < w1.heap.size := by omega
  have HR := hide (fun x y => And.intro (rfl_set (j := 1) (rfl_set (j := 0) hU hA lw x) hA lw y) (rfl_set (j := 1) (rfl_set (j := 0) hV hA' lw x) hA' lw y))
  clear hU hV hD B2 b2 hz HC HN HO HW HK0 HB0 hA hA' K2
  go_wp2
  refine bodyPost_ret (v := .agg #[.slice s1 xs.length t1, .slice s2 ys.length t2]) (by simp [results, go_sem, q0, q1]) rfl ⟨_, _, xs, ys, rfl, (HR.out _ _).1, (HR.out _ _).2, hx, hy, ?_⟩
  exact (HB.out.setCell (Nat.le_refl _) _).setCell (Nat.le_refl _) _

set_option maxRecDepth 100000 in
set_option maxHeartbeats 1600000 in
theorem drawR_any (w : World) (a : Option Addr) (len cap : Nat) (hcode : CodeIs w a len) (hlen : len ≤ 1048576) :
    Calls Try.prog 13 #[.slice a len cap] w fun e w' => ∃ t : ByteArray, t.size ≤ 4 ∧ e = .returned (.string t) ∧ Below w.heap.size w w' := by
  have HO := hide hcode
  clear hcode
  go_enter Try.func13, Try.ntmps13
  go_wp2_with fail
  refine (new_any w a len cap HO.out hlen).mono ?_
  rintro e w1 ⟨rfl, hcur, hlt⟩
  have HC := hide hcur
  clear hcur
  go_wp2_with fail
  refine (pick_any w _ w.heap.size w1.heap.size a len cap [3, 3, 3, 2, 4, 0] HO.out hlen (cur_alloc HC.out hlt _) (heap_new w1 _) (by omega) (by decide) (by decide)).mono ?_
  rintro e w2 ⟨z, hz, rfl, D2⟩
  have D3 := (((Drew.refl HC.out).alloc hlt _)).trans D2
  have HD := hide D3
  have hz2 : ∃ n : Nat, n ≤ 4 ∧ z = (n : Int) := by
    simp at hz
    rcases hz with rfl | rfl | rfl | rfl
    · exact ⟨3, by omega, rfl⟩
    · exact ⟨2, by omega, rfl⟩
    · exact ⟨4, by omega, rfl⟩
    · exact ⟨0, by omega, rfl⟩
  obtain ⟨n, hn, rfl⟩ := hz2
  have h2 : w.heap.size < w2.heap.size := by have := D3.2.size; omega
  clear D2 D3 hz
  go_wp2_with fail
  refine (text_any w w2 w.heap.size a len cap n HO.out hlen HD.out.cur h2 (by omega)).mono ?_
  rintro e w3 ⟨l, hl, rfl, D4⟩
  have HE := hide (D4.1.2.1)
  have hs : (⟨l.toArray⟩ : ByteArray).size = n := by show l.toArray.size = n; simp [hl]
  generalize (⟨l.toArray⟩ : ByteArray) = T at *
  have HT := hide hs
  clear D4 hs
  go_wp2
  go_ret
  exact ⟨T, by have := HT.out; omega, rfl, HE.out⟩

theorem read_text3 (p q r : UInt8) : readX ⟨#[p, q, r]⟩ = bitsN 8 p.toNat ++ bitsN 8 q.toNat ∧ readY ⟨#[p, q, r]⟩ = bitsN 8 r.toNat := by
  have e1 : (ByteArray.extract ⟨#[p, q, r]⟩ 0 2).data.toList = [p, q] := by simp [ByteArray.data_extract]
  have e2 : (ByteArray.extract ⟨#[p, q, r]⟩ 2 3).data.toList = [r] := by simp [ByteArray.data_extract]
  exact ⟨by rw [readX, e1, flagsL_two], by rw [readY, e2, flagsL_one]⟩
/-- What is written is read back. -/
theorem text_back (xs ys : List Bool) (hx : xs.length = 16) (hy : ys.length = 8) : rdR (textB xs ys) = true ∧ rdX (textB xs ys) = xs ∧ rdY (textB xs ys) = ys := by
  obtain ⟨e1, e2⟩ := read_text3 (bB (xs.take 8)) (bB (xs.drop 8)) (bB ys)
  have h : (textB xs ys).size = 3 := rfl
  refine ⟨by simp [rdR, h], ?_, ?_⟩
  · rw [rdX, if_pos h]
    rw [textB, e1, bits_bB _ (by simp; omega), bits_bB _ (by simp; omega), List.take_append_drop]
  · rw [rdY, if_pos h]
    rw [textB, e2, bits_bB _ hy]
/-- What is read is written back. -/
theorem read_back (t : ByteArray) (h : t.size = 3) : okB (rdX t).length (rdY t).length = true ∧ textA (rdX t) (rdY t) = t := by
  have hX : rdX t = readX t := by rw [rdX, if_pos h]
  have hY : rdY t = readY t := by rw [rdY, if_pos h]
  have hok : okB (rdX t).length (rdY t).length = true := by rw [hX, hY, readX_length t h, readY_length t h]; rfl
  refine ⟨hok, ?_⟩
  rw [textA, if_pos hok, hX, hY]
  obtain ⟨p, q, r, rfl⟩ := bytes3 t h
  obtain ⟨e1, e2⟩ := read_text3 p q r
  rw [e1, e2, textB]
  have e3 : (bitsN 8 p.toNat ++ bitsN 8 q.toNat).take 8 = bitsN 8 p.toNat := List.take_left' (bitsN_length _ _)
  have e4 : (bitsN 8 p.toNat ++ bitsN 8 q.toNat).drop 8 = bitsN 8 q.toNat := List.drop_left' (bitsN_length _ _)
  rw [e3, e4, bB_bits, bB_bits, bB_bits]
theorem read_none (t : ByteArray) (h : t.size ≠ 3) : rdR t = false ∧ rdX t = [] ∧ rdY t = [] := by
  refine ⟨by simp [rdR, h], by rw [rdX, if_neg h], by rw [rdY, if_neg h]⟩
end Go.Proofs.Ytakkdfbcipbbjaa
