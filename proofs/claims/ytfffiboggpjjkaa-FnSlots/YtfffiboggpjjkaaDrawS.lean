/- spec.DrawSlotOf and spec.DrawNameOk by their contracts; a name is found where it is. -/
import Derived.Test.YtfffiboggpjjkaaDrawT
namespace Go.Proofs.Ytfffiboggpjjkaa
open Go.RowKit Kit
def eight : List ByteArray := [⟨#[]⟩, ⟨#[97]⟩, ⟨#[97, 49]⟩, ⟨#[65]⟩, ⟨#[97, 98, 99, 100, 101, 102]⟩, ⟨#[97, 98, 99, 100, 101, 102, 103]⟩, ⟨#[97, 32, 98]⟩, ⟨#[57]⟩]
theorem eight_size : ∀ n ∈ eight, n.size ≤ 7 := by decide
set_option maxHeartbeats 1600000 in
theorem drawN_any (w : World) (a : Option Addr) (len cap : Nat) (hcode : CodeIs w a len) (hlen : len ≤ 1048576) :
    Calls Try.prog 23 #[.slice a len cap] w fun e w' => ∃ t : ByteArray, t.size ≤ 7 ∧ e = .returned (.string t) ∧ Below w.heap.size w w' := by
  have HO := hide hcode
  clear hcode
  go_enter Try.func23, Try.ntmps23
  go_wp2_with fail
  refine (new_any w a len cap HO.out hlen).mono ?_
  rintro e w1 ⟨rfl, hcur, hlt⟩
  have HC := hide hcur
  clear hcur
  go_wp2_with fail
  refine (pickS_any w _ w.heap.size w1.heap.size a len cap eight HO.out hlen (cur_alloc HC.out hlt _) (AtC.new w1 9 _) (by omega) (by decide) (by decide)).mono ?_
  rintro e w2 ⟨z, hz, rfl, D2⟩
  have HD := hide (((Drew.refl HC.out).alloc hlt (.cells (eight.map Value.string).toArray 9)).trans D2)
  clear D2
  go_wp2
  go_ret
  exact ⟨z, eight_size z hz, rfl, HD.out.cur.2.1⟩
set_option maxHeartbeats 1600000 in
theorem drawSO_any (w : World) (a : Option Addr) (len cap : Nat) (hcode : CodeIs w a len) (hlen : len ≤ 1048576) :
    Calls Try.prog 22 #[.slice a len cap] w fun e w' => ∃ (d : Bool) (v : Value) (t : ByteArray) (xs : List Sl) (n : ByteArray), e = .returned (.tuple #[.agg #[.bool d, v, .string t], .string n]) ∧ SOwns w' w.heap.size 36 v xs ∧ Mild t xs ∧ Below w.heap.size w w' := by
  obtain ⟨W0, hW0⟩ : ∃ W0, w.alloc (Obj.cells #[.bool false, .slice none 0 0, .string ⟨#[]⟩] 26) = W0 := ⟨_, rfl⟩
  have hsz : W0.heap.size = w.heap.size + 1 := by rw [← hW0]; simp
  have B0 : Below w.heap.size w W0 := by rw [← hW0]; exact (Below.refl _ w).alloc (Nat.le_refl _) _
  have K0 : AtC W0 w.heap.size 26 #[.bool false, .slice none 0 0, .string ⟨#[]⟩] := by rw [← hW0]; exact AtC.new w 26 _
  have HO := hide (code_below hcode B0)
  have HN := hide (new_any W0 a len cap HO.out hlen)
  have HW := hide hW0
  have HB0 := hide B0
  have HK0 := hide K0
  have HZ := hide hsz
  clear hcode hW0 B0 K0 hsz
  go_enter Try.func22, Try.ntmps22
  go_wp2_with fail
  rw [HW.out]
  refine HN.out.mono ?_
  rintro e w1 ⟨rfl, hcur, hlt⟩
  have HC := hide hcur
  clear hcur
  rw [HZ.out] at HC hlt ⊢
  go_wp2_with fail
  refine (any_any W0 w1 (w.heap.size + 1) a len cap HO.out hlen HC.out hlt).mono ?_
  rintro e w2 ⟨d, v, t, xs, rfl, O2, M2, hD⟩
  obtain ⟨s2, t2, rfl, -⟩ := O2.form
  obtain ⟨V, hV⟩ : ∃ V, w2.heap.size = V := ⟨_, rfl⟩
  have hz := HZ.out
  have hws : w1.heap.size ≤ w2.heap.size := hD.2.size
  have KD := hide (And.intro ((HK0.out.below hD.1.2.1 (by omega)).alloc (.cells #[.bool d, .slice s2 xs.length t2, .string t] 26)) (And.intro (show AtC (w2.alloc (.cells #[.bool d, .slice s2 xs.length t2, .string t] 26)) V 26 #[.bool d, .slice s2 xs.length t2, .string t] from by rw [← hV]; exact AtC.new w2 26 _) (And.intro ((show SOwns w2 (w.heap.size + 1) 36 (.slice s2 xs.length t2) xs from O2.base_le (by omega)).alloc (.cells #[.bool d, .slice s2 xs.length t2, .string t] 26)) (hD.alloc hlt (.cells #[.bool d, .slice s2 xs.length t2, .string t] 26)))))
  have HM := hide M2
  have hog : ∀ k, (Value.slice s2 xs.length t2).ownBlock = some k → w1.heap.size ≤ k := fun k h => (O2.lt k h).1
  have HG := hide hog
  clear O2 M2 hD HN HW hog
  go_wp2_with fail
  refine (once_any W0 _ (w.heap.size + 1) a len cap 8 HO.out hlen KD.out.2.2.2.cur (by decide) (by decide)).mono ?_
  rintro e w3 ⟨x, rfl, D3⟩
  have K3 := KD.out.1.grown D3.2 (by simp)
  have V3 := KD.out.2.1.grown D3.2 (by simp; omega)
  have O3 := KD.out.2.2.1.grown D3.2 (fun k hk e => by have := HG.out k hk; simp at e; omega)
  have d3 := KD.out.2.2.2.trans D3
  obtain ⟨q0, q1, q2, m0⟩ := K3.three
  obtain ⟨z0, z1, z2⟩ := K3.frz
  obtain ⟨v0, v1, v2, m1⟩ := V3.three
  have b3 : Below w.heap.size w w3 := HB0.out.trans (d3.1.2.1.mono (by omega))
  have H3 := hide (And.intro K3 (And.intro V3 (And.intro O3 (And.intro d3 b3))))
  have hlt3 : w.heap.size + 1 < w3.heap.size := by have := d3.2.size; omega
  clear K3 V3 O3 d3 D3 b3 KD hz
  cases hx : (x == 0) with
  | true =>
    clear hx
    go_wp2
    refine bodyPost_ret (v := .tuple #[.agg #[.bool d, .slice s2 xs.length t2, .string t], .string ⟨#[]⟩]) (by simp [results, go_sem, q0, q1, q2]) rfl ⟨d, _, t, xs, _, rfl, ?_, HM.out, ?_⟩
    · exact (((H3.out.2.2.1.setCell_low (by omega) _).setCell_low (by omega) _).setCell_low (by omega) _).base_le (by omega)
    · exact ((H3.out.2.2.2.2.setCell (Nat.le_refl _) _).setCell (Nat.le_refl _) _).setCell (Nat.le_refl _) _
  | false =>
    clear hx
    have hVR : ¬ V = w.heap.size := by omega
    go_wp2_with fail
    go_region_held3 (fun w' => w'.cell? ⟨V, 0, none⟩ = some (.bool d) ∧ w'.cell? ⟨V, 1, none⟩ = some (.slice s2 xs.length t2) ∧ w'.cell? ⟨V, 2, none⟩ = some (.string t)) (first | exact ⟨v0, v1, v2⟩ | exact a6 | exact a7) ((go_at_call 44; refine (name_any W0 _ (w.heap.size + 1) a len cap HO.out hlen H3.out.2.2.2.1.drew.cur hlt3).mono ?_; rintro e w6 ⟨n, -, rfl, D6⟩; obtain ⟨K6, V6, O6, b6⟩ := (show AtC w6 w.heap.size 26 #[.bool false, .slice none 0 0, .string ⟨#[]⟩] ∧ AtC w6 V 26 #[.bool d, .slice s2 xs.length t2, .string t] ∧ SOwns w6 (w.heap.size + 1) 36 (.slice s2 xs.length t2) xs ∧ Below w.heap.size w w6 from ⟨H3.out.1.drew.grown D6.2 (by simp), H3.out.2.1.drew.grown D6.2 (by simp; omega), H3.out.2.2.1.drew.grown D6.2 (fun k hk e => by { have := HG.out k hk; simp at e; omega }), HB0.out.trans ((H3.out.2.2.2.1.drew.trans D6).1.2.1.mono (by have := HZ.out; omega))⟩); have a6 := And.intro V6.three.1 (And.intro V6.three.2.1 V6.three.2.2.1); obtain ⟨q0, q1, q2, m0⟩ := K6.three; obtain ⟨z0, z1, z2⟩ := K6.frz; have H6 := hide (And.intro O6 b6); have V7 := ((V6.other (g := w.heap.size) (k := 0) hVR (.bool d)).other (g := w.heap.size) (k := 1) hVR (.slice s2 xs.length t2)).other (g := w.heap.size) (k := 2) hVR (.string t); have a7 := And.intro V7.three.1 (And.intro V7.three.2.1 V7.three.2.2.1); clear K6 V6 O6 b6 D6 V7))
    clear a6 a7
    go_wp2
    refine bodyPost_ret (v := .tuple #[.agg #[.bool d, .slice s2 xs.length t2, .string t], .string n]) (by simp [results, go_sem, q0, q1, q2]) rfl ⟨d, _, t, xs, _, rfl, ?_, HM.out, ?_⟩
    · exact (((H6.out.1.setCell_low (by omega) _).setCell_low (by omega) _).setCell_low (by omega) _).base_le (by omega)
    · exact ((H6.out.2.setCell (Nat.le_refl _) _).setCell (Nat.le_refl _) _).setCell (Nat.le_refl _) _
theorem plF_at {name : ByteArray} : ∀ (l : List Sl) (k i : Nat) (h : i < l.length), l[i].1 = name → (∀ (j : Nat) (hj : j < l.length), j < i → l[j].1 ≠ name) → plF name k l = ((k + i : Nat) : Int) := by
  intro l
  induction l with
  | nil => intro k i h; simp at h
  | cons x r ih =>
    intro k i h he hb
    cases i with
    | zero =>
      rw [plF, if_pos (by simpa using he)]
      simp
    | succ i =>
      rw [plF, if_neg (show ¬ x.1 = name from hb 0 (by simp) (by omega)), ih (k + 1) i (by simpa using h) (by simpa using he) (fun j hj hji => show r[j].1 ≠ name from hb (j + 1) (by simpa using hj) (by omega))]
      rw [show k + 1 + i = k + (i + 1) by omega]
theorem plF_not {name : ByteArray} : ∀ (l : List Sl) (k : Nat), (∀ s ∈ l, s.1 ≠ name) → plF name k l = -1 := by
  intro l
  induction l with
  | nil => intro _ _; rfl
  | cons x r ih => intro k h; rw [plF, if_neg (h x (by simp)), ih _ (fun s hs => h s (by simp [hs]))]
theorem once_place {xs : List Sl} (h : Once xs) {i : Nat} (hi : i < xs.length) (hz : xs[i].1.size ≠ 0) : placeR xs xs[i].1 = (i : Int) ∧ nameOk xs[i].1 = true := by
  obtain ⟨h1, h2⟩ := h.2 i hi hz
  refine ⟨?_, (five_ok _ h1).1⟩
  rw [placeR, if_neg hz, plF_at xs 0 i hi rfl (fun j hj hji => h2 j hj (by omega))]
  simp
theorem once_zz {xs : List Sl} (h : xs = [] ∨ Once xs) : placeR xs ⟨#[122, 122]⟩ = -1 := by
  rw [placeR, if_neg (by decide)]
  refine plF_not _ _ fun s hs => ?_
  rcases h with rfl | h
  · simp at hs
  · obtain ⟨i, hi, rfl⟩ := List.getElem_of_mem hs
    by_cases hz : xs[i].1.size = 0
    · intro e; rw [e] at hz; exact absurd hz (by decide)
    · exact (five_ok _ (h.2 i hi hz).1).2
end Go.Proofs.Ytfffiboggpjjkaa
