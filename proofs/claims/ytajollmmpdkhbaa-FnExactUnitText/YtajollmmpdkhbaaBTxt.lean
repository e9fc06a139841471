
/- impl.BitsText by its contract. -/
import Derived.Test.YtajollmmpdkhbaaCom
import Derived.Test.YtajollmmpdkhbaaBTo
import Derived.Test.YtajollmmpdkhbaaBRo
import Derived.Deep.RegionHeld3
namespace Go.Proofs.Ytajollmmpdkhbaa
open Go.RowKit Kit
/-- The bytes of bits. -/
def textB (xs ys : List Bool) : ByteArray := ⟨#[bB (xs.take 8), bB (xs.drop 8), bB ys]⟩
theorem text_sum (xs ys : List Bool) (hx : xs.length = 16) (hy : ys.length = 8) : (⟨(rowsK xs xs.length 2).toArray⟩ : ByteArray) ++ (⟨(rowsK ys ys.length 1).toArray⟩ : ByteArray) = textB xs ys := by
  rw [hx, hy, rowsK_two xs hx, rowsK_one ys hy]
  rfl

set_option maxHeartbeats 800000 in
theorem implText_noB (a1 a2 : Option Addr) (n m c1 c2 : Nat) (w : World) (h : okB n m = false) :
    Calls Try.prog 80 #[.agg #[.slice a1 n c1, .slice a2 m c2]] w fun e w' => e = .returned (.tuple #[.string ⟨#[]⟩, .bool false]) ∧ Below w.heap.size w w' := by
  have C := hide (implOk_anyB a1 a2 n m c1 c2)
  rw [h] at C
  clear h
  go_enter Try.func80, Try.ntmps80
  go_wp2_with fail
  refine (C.out _).mono ?_
  rintro e w1 ⟨rfl, B1⟩
  have HB := hide (((Below.refl _ w).alloc (Nat.le_refl _) _).trans (B1.mono (by simp)))
  clear B1
  go_wp2
  refine bodyPost_ret (v := .tuple #[.string ⟨#[]⟩, .bool false]) (by simp [results, go_sem]) rfl ⟨rfl, HB.out⟩

set_option maxRecDepth 100000 in
set_option maxHeartbeats 1600000 in
theorem implText_yesB (u v : Value) (xs ys : List Bool) (w : World) (hu : RFl w u xs) (hv : RFl w v ys) (hx : xs.length = 16) (hy : ys.length = 8) :
    Calls Try.prog 80 #[.agg #[u, v]] w fun e w' => e = .returned (.tuple #[.string (textB xs ys), .bool true]) ∧ Below w.heap.size w w' := by
  have HU := hide hu
  have HV := hide hv
  obtain ⟨a1, c1, rfl, -⟩ := hu
  obtain ⟨a2, c2, rfl, -⟩ := hv
  have C := hide (implOk_anyB a1 a2 xs.length ys.length c1 c2)
  rw [show okB xs.length ys.length = true by simp [okB, hx, hy]] at C
  obtain ⟨s1, hs1⟩ : ∃ s, (⟨(rowsK xs xs.length 2).toArray⟩ : ByteArray) = s := ⟨_, rfl⟩
  obtain ⟨s2, hs2⟩ : ∃ s, (⟨(rowsK ys ys.length 1).toArray⟩ : ByteArray) = s := ⟨_, rfl⟩
  have hsum := text_sum xs ys hx hy
  have R1 := hide (fun w hv => rowsOf_any (.slice a1 xs.length c1) xs 2 w hv hx (by decide))
  have R2 := hide (fun w hv => rowsOf_any (.slice a2 ys.length c2) ys 1 w hv hy (by decide))
  rw [hs1] at hsum R1
  rw [hs2] at hsum R2
  have z1 : s1.size = 2 := by rw [← hs1]; show (rowsK xs xs.length 2).toArray.size = 2; simp [rowsK]
  have z2 : s2.size = 1 := by rw [← hs2]; show (rowsK ys ys.length 1).toArray.size = 1; simp [rowsK]
  have z3 : ¬ 9223372036854775807 < s1.size + s2.size := by omega
  have HS := hide hsum
  clear hs1 hs2 hsum hx hy z1 z2
  go_enter Try.func80, Try.ntmps80
  go_wp2_with fail
  refine (C.out _).mono ?_
  rintro e w1 ⟨rfl, B1⟩
  have X1 : AtP 24 w1 w.heap.size (.slice a1 xs.length c1) (.slice a2 ys.length c2) := (AtP.new 24 w _ _).below B1 (by simp)
  have U1 := (HU.out.alloc (Obj.cells #[.slice a1 xs.length c1, .slice a2 ys.length c2] 24)).below B1 (Nat.le_refl _)
  have V1 := (HV.out.alloc (Obj.cells #[.slice a1 xs.length c1, .slice a2 ys.length c2] 24)).below B1 (Nat.le_refl _)
  have b1 : Below w.heap.size w w1 := ((Below.refl _ w).alloc (Nat.le_refl _) _).trans (B1.mono (by simp))
  have H1 := hide (And.intro X1 (And.intro U1 (And.intro V1 b1)))
  have HC : Hid (∀ w', Below w1.heap.size w1 w' → (w'.cell? ⟨w.heap.size, 0, none⟩ = some (.slice a1 xs.length c1) ∧ w'.cell? ⟨w.heap.size, 1, none⟩ = some (.slice a2 ys.length c2)) ∧ RFl w' (.slice a1 xs.length c1) xs ∧ RFl w' (.slice a2 ys.length c2) ys ∧ Below w.heap.size w w') := fun w' hb => ⟨(H1.out.1.below hb H1.out.1.lt).cells, H1.out.2.1.below hb (Nat.le_refl _), H1.out.2.2.1.below hb (Nat.le_refl _), H1.out.2.2.2.trans (hb.mono H1.out.2.2.2.size)⟩
  have BB := (Below.refl w1.heap.size w1).drew
  obtain ⟨n1, hn1⟩ : ∃ n, xs.length = n := ⟨_, rfl⟩
  obtain ⟨n2, hn2⟩ : ∃ n, ys.length = n := ⟨_, rfl⟩
  rw [hn1] at HC R1
  rw [hn2] at HC R2
  simp only [hn1, hn2]
  clear B1 X1 U1 V1 b1 C HU HV H1 hn1 hn2
  go_wp2_with fail
  go_region_held3 (fun w' => w'.cell? ⟨w.heap.size, 0, none⟩ = some (.slice a1 n1 c1) ∧ w'.cell? ⟨w.heap.size, 1, none⟩ = some (.slice a2 n2 c2)) (exact (HC.out _ BB).1) (first | (go_at_call_of 99 (Value.slice a1 n1 c1); refine (R1.out _ (HC.out _ BB).2.1).mono ?_; rintro e w2 ⟨rfl, B2⟩; replace BB := BB.trans (B2.mono BB.size)) | (go_at_call_of 99 (Value.slice a2 n2 c2); refine (R2.out _ (HC.out _ BB).2.2.1).mono ?_; rintro e w2 ⟨rfl, B2⟩; replace BB := BB.trans (B2.mono BB.size)))
  have HZ := hide (HC.out _ BB).2.2.2
  clear BB B2
  go_wp2
  refine bodyPost_ret (v := .tuple #[.string (s1 ++ s2), .bool true]) (by simp [results, go_sem]) rfl ⟨by rw [HS.out], HZ.out⟩
end Go.Proofs.Ytajollmmpdkhbaa
