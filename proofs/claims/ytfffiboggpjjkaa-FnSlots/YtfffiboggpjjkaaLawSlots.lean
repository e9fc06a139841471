/- The walk of laws.FnSlots: it returns true at every code. -/
import Derived.Test.YtfffiboggpjjkaaDrawS
import Derived.Test.YtfffiboggpjjkaaLawBlocks
namespace Go.Proofs.Ytfffiboggpjjkaa.fnSlots
open Go.RowKit Kit
set_option maxRecDepth 100000 in
set_option maxHeartbeats 3200000 in
theorem walk (a : Option Addr) (len cap : Nat) (w : World) (hcode : CodeIs w a len) (_hl : len ≤ maxLen) :
    Calls Try.prog 4 #[.slice a len cap] w fun e w' => e = .returned (.bool true) ∧ Below w.heap.size w w' := by
  have HO := hide hcode
  clear hcode
  by_cases hlen : len ≤ 1048576
  · go_enter Try.func4, Try.ntmps4
    go_wp2_with fail
    refine (fnBlocks.big_no a len cap w hlen).mono ?_
    rintro e w1 ⟨rfl, rfl⟩
    go_wp2_with fail
    refine (drawB_any w a len cap HO.out hlen).mono ?_
    rintro e w1 ⟨d, v, tx, xs, rfl, O1, hk, B1⟩
    obtain ⟨s1, t1, rfl, -⟩ := O1.form
    obtain ⟨V, hV⟩ : ∃ V, w1.heap.size = V := ⟨_, rfl⟩
    have HF : Hid (∀ w', Below (V + 1) (w1.alloc (.cells #[.bool d, .slice s1 xs.length t1, .string tx] 26)) w' → AtC w' V 26 #[.bool d, .slice s1 xs.length t1, .string tx] ∧ RSl w' (.slice s1 xs.length t1) xs ∧ Below w.heap.size w w') := fun w' hb => by
      have h1 : Below (w1.alloc (.cells #[.bool d, .slice s1 xs.length t1, .string tx] 26)).heap.size (w1.alloc (.cells #[.bool d, .slice s1 xs.length t1, .string tx] 26)) w' := by rw [World.size_alloc, hV]; exact hb
      exact ⟨by rw [← hV]; exact (AtC.new w1 26 _).over h1, (O1.alloc _).rsl.below h1 (Nat.le_refl _), (B1.alloc B1.size _).trans (h1.mono (by have := B1.size; simp; omega))⟩
    have hxl : xs.length ≤ 4 := by rcases hk with rfl | h; simp; have := h.1; omega
    have HK := hide hk
    have hwV : w.heap.size ≤ V := by have := B1.size; omega
    obtain ⟨W1, hW1⟩ : ∃ W1, w1.alloc (.cells #[.bool d, .slice s1 xs.length t1, .string tx] 26) = W1 := ⟨_, rfl⟩
    have hWs : W1.heap.size = V + 1 := by rw [← hW1]; simp [hV]
    rw [hW1] at HF
    have HW := hide hW1
    have HWS := hide hWs
    clear O1 B1 hk hW1 hWs
    go_wp2_with fail
    rw [HW.out]
    go_loopw [4] (fun i wr => ∃ j : Nat, j ≤ xs.length ∧ i = .int .i64 j ∧ Below (V + 1) W1 wr) (fun i _ => xs.length - (intOf i).toNat)
    case atStart => exact ⟨0, Nat.zero_le _, rfl, Below.refl _ _⟩
    case round =>
      obtain ⟨j, hj, rfl, hb⟩ := hrel
      have HB := hide hb
      obtain ⟨v0, v1, v2, vl⟩ := (HF.out _ hb).1.three
      have hsz := hb.size
      rw [HWS.out] at hsz
      by_cases hlt : j < xs.length
      · have hon : Once xs := by rcases HK.out with rfl | h; simp at hlt; exact h
        obtain ⟨aa, cc, eaa, -, hcc⟩ := (HF.out _ hb).2.1
        simp only [Value.slice.injEq] at eaa
        obtain ⟨rfl, -, rfl⟩ := eaa
        obtain ⟨g, off, rfl, hg, m1, m2⟩ := hcc j hlt
        have HS : Hid (∀ w', Below wr.heap.size wr w' → (w'.cell? ⟨V, 0, none⟩ = some (.bool d) ∧ w'.cell? ⟨V, 1, none⟩ = some (.slice (some ⟨g, off, none⟩) xs.length t1) ∧ w'.cell? ⟨V, 2, none⟩ = some (.string tx) ∧ w'.cell? ⟨g, off + j * 2, none⟩ = some (.string xs[j].1)) ∧ RSl w' (.slice (some ⟨g, off, none⟩) xs.length t1) xs ∧ Below (V + 1) W1 w') := fun w' h => by
          have h2 : Below (V + 1) W1 w' := HB.out.trans (h.mono hsz)
          exact ⟨⟨(HF.out _ h2).1.three.1, (HF.out _ h2).1.three.2.1, (HF.out _ h2).1.three.2.2.1, (h.cell (p := ⟨g, off + j * 2, none⟩) hg).trans m1⟩, (HF.out _ h2).2.1, h2⟩
        have C1 := hide (fun v W h => implSlot_any d v tx xs xs[j].1 W h (by omega))
        have C2 := hide (fun W => implName_any xs[j].1 W)
        have hpl := fun h => once_place hon hlt h
        obtain ⟨n, hn⟩ : ∃ n, xs[j].1 = n := ⟨_, rfl⟩
        rw [hn] at HS m1 C1 C2 hpl
        have j0 : (0 : Int) ≤ (j : Int) := by omega
        have j1 : (j : Int) < (xs.length : Int) := by omega
        clear hn hcc m2 hon hb
        by_cases hz : n.size = 0
        · have he := emp_true hz
          clear hpl hz
          go_wp2
          go_quiet (fail)
          go_wp2
          go_roundw
          case rel => exact ⟨j + 1, by omega, by go_num, below_drewN HB.out _⟩
          case measure => simp [intOf]; omega
        · have he := emp_false (s := n) (by omega)
          obtain ⟨p1, p2⟩ := hpl hz
          rw [p1] at C1
          rw [p2] at C2
          clear hpl hz p1 p2
          have BB := (Below.refl wr.heap.size wr).drew
          go_wp2_with fail
          go_region_held3 (fun w' => w'.cell? ⟨V, 0, none⟩ = some (.bool d) ∧ w'.cell? ⟨V, 1, none⟩ = some (.slice (some ⟨g, off, none⟩) xs.length t1) ∧ w'.cell? ⟨V, 2, none⟩ = some (.string tx) ∧ w'.cell? ⟨g, off + j * 2, none⟩ = some (.string n)) (exact (HS.out _ BB).1) (first | (go_at_call 19; refine (C1.out _ _ (HS.out _ BB).2.1).mono ?_; rintro e w6 ⟨rfl, B6⟩; replace BB := BB.trans (B6.mono BB.size)) | (go_at_call 20; refine (C2.out _).mono ?_; rintro e w7 ⟨rfl, B7⟩; replace BB := BB.trans (B7.mono BB.size)))
          have HZ := hide (HS.out _ BB).2.2
          clear BB
          go_wp2
          go_roundw
          case rel => exact ⟨j + 1, by omega, by go_num, HZ.out⟩
          case measure => simp [intOf]; omega
      · have HCD := hide (code_below HO.out (HF.out _ HB.out).2.2)
        have hws : w.heap.size ≤ wr.heap.size := (HF.out _ HB.out).2.2.size
        clear hb
        go_wp2_with fail
        refine (implNew_any wr).mono ?_
        rintro e w2 ⟨u2, rfl, O2, B2⟩
        obtain ⟨a2, c2, rfl⟩ := O2.form4
        have HO2 := hide O2
        have HB2 := hide B2
        have hs2 := B2.size
        clear O2 B2 v0 v1 v2 vl
        go_wp2_with fail
        refine (drawSO_any _ a len cap (code_below HCD.out (HB2.out.alloc hs2 _)) hlen).mono ?_
        rintro e w3 ⟨d3, u3, t3, xs3, nm, rfl, O3, M3, B3⟩
        obtain ⟨s3, c3, rfl, -⟩ := O3.form
        have HO3 := hide O3
        have HB3 := hide B3
        have HM3 := hide M3
        have hs3 : w2.heap.size + 1 ≤ w3.heap.size := by have := B3.size; simpa using this
        clear O3 B3 M3
        have bw3 : Below wr.heap.size wr (w3.alloc (.cells #[.bool d3, .slice s3 xs3.length c3, .string t3] 26)) := ((HB2.out.alloc hs2 _).trans (HB3.out.mono (by simp; omega))).alloc (by omega) _
        have HBW := hide bw3
        clear bw3
        go_wp2_with fail
        refine (drawN_any _ a len cap (code_below HCD.out HBW.out) hlen).mono ?_
        rintro e w4 ⟨sN, hsN, rfl, B4⟩
        have HSS : Hid (∀ w', Below w4.heap.size w4 w' → (w'.cell? ⟨V, 0, none⟩ = some (.bool d) ∧ w'.cell? ⟨V, 1, none⟩ = some (.slice s1 xs.length t1) ∧ w'.cell? ⟨V, 2, none⟩ = some (.string tx) ∧ w'.cell? ⟨w2.heap.size, 0, none⟩ = some (.bool true) ∧ w'.cell? ⟨w2.heap.size, 1, none⟩ = some (.slice a2 4 c2) ∧ w'.cell? ⟨w2.heap.size, 2, none⟩ = some (.string ⟨#[]⟩) ∧ w'.cell? ⟨w3.heap.size, 0, none⟩ = some (.bool d3) ∧ w'.cell? ⟨w3.heap.size, 1, none⟩ = some (.slice s3 xs3.length c3) ∧ w'.cell? ⟨w3.heap.size, 2, none⟩ = some (.string t3)) ∧ RSl w' (.slice s1 xs.length t1) xs ∧ RSl w' (.slice a2 4 c2) noSl ∧ RSl w' (.slice s3 xs3.length c3) xs3 ∧ Below w.heap.size w w') := fun w' h => by
          have hB4 : Below (w3.alloc (.cells #[.bool d3, .slice s3 xs3.length c3, .string t3] 26)).heap.size (w3.alloc (.cells #[.bool d3, .slice s3 xs3.length c3, .string t3] 26)) w' := B4.trans (h.mono B4.size)
          have hr : Below wr.heap.size wr w' := HBW.out.trans (hB4.mono (by simp; omega))
          have hV1 : Below (V + 1) W1 w' := HB.out.trans (hr.mono hsz)
          have hF := HF.out _ hV1
          have h3 : Below w3.heap.size w3 w' := ((Below.refl _ w3).alloc (Nat.le_refl _) _).trans (hB4.mono (by simp))
          have A2 := (((AtC.new w2 26 #[.bool true, .slice a2 4 c2, .string ⟨#[]⟩]).over HB3.out).over h3).three
          have A3 := ((AtC.new w3 26 #[.bool d3, .slice s3 xs3.length c3, .string t3]).over hB4).three
          have h2 : Below w2.heap.size w2 w3 := ((Below.refl _ w2).alloc (Nat.le_refl _) _).trans (HB3.out.mono (by simp))
          exact ⟨⟨hF.1.three.1, hF.1.three.2.1, hF.1.three.2.2.1, A2.1, A2.2.1, A2.2.2.1, A3.1, A3.2.1, A3.2.2.1⟩, hF.2.1, (HO2.out.rsl.below h2 (Nat.le_refl _)).below h3 (Nat.le_refl _), HO3.out.rsl.below h3 (Nat.le_refl _), hF.2.2⟩
        have CA := hide (fun W h => implSlot_any d (.slice s1 xs.length t1) tx xs ⟨#[122, 122]⟩ W h (by omega))
        rw [once_zz HK.out] at CA
        have CB := hide (fun W h => implSlot_any true (.slice a2 4 c2) ⟨#[]⟩ noSl ⟨#[]⟩ W h (by decide))
        rw [placeR_empty noSl rfl] at CB
        have CC := hide (fun W h => implOk_any true (.slice a2 4 c2) ⟨#[]⟩ noSl W h)
        rw [show blockOk true noSl ⟨#[]⟩ = true by decide] at CC
        have hl3 := HM3.out.len
        have CD := hide (fun W h => implSlot_any d3 (.slice s3 xs3.length c3) t3 xs3 nm W h (by omega))
        have CE := hide (fun W h => specSlot_any d3 (.slice s3 xs3.length c3) t3 xs3 nm W h (by omega))
        obtain ⟨r3, hr3⟩ : ∃ r, placeR xs3 nm = r := ⟨_, rfl⟩
        rw [hr3] at CD CE
        have CF := hide (fun W => implName_any sN W)
        have CG := hide (fun W => specName_any sN W (by omega))
        obtain ⟨k, hk⟩ : ∃ k, nameOk sN = k := ⟨_, rfl⟩
        rw [hk] at CF CG
        obtain ⟨⟨x0, x1, x2, y0, y1, y2, z0, z1, z2⟩, -⟩ := HSS.out _ (Below.refl _ _)
        have BB := (Below.refl w4.heap.size w4).drew
        clear hk hr3 B4 hs2 hs3
        go_wp2_with fail
        go_region_held3 (fun w' => w'.cell? ⟨V, 0, none⟩ = some (.bool d) ∧ w'.cell? ⟨V, 1, none⟩ = some (.slice s1 xs.length t1) ∧ w'.cell? ⟨V, 2, none⟩ = some (.string tx) ∧ w'.cell? ⟨w2.heap.size, 0, none⟩ = some (.bool true) ∧ w'.cell? ⟨w2.heap.size, 1, none⟩ = some (.slice a2 4 c2) ∧ w'.cell? ⟨w2.heap.size, 2, none⟩ = some (.string ⟨#[]⟩) ∧ w'.cell? ⟨w3.heap.size, 0, none⟩ = some (.bool d3) ∧ w'.cell? ⟨w3.heap.size, 1, none⟩ = some (.slice s3 xs3.length c3) ∧ w'.cell? ⟨w3.heap.size, 2, none⟩ = some (.string t3)) (exact (HSS.out _ BB).1) (first | (go_at_call_of 19 (ByteArray.mk #[122, 122]); refine (CA.out _ (HSS.out _ BB).2.1).mono ?_; rintro e w5 ⟨rfl, B5⟩; replace BB := BB.trans (B5.mono BB.size)) | (go_at_call_of 19 nm; refine (CD.out _ (HSS.out _ BB).2.2.2.1).mono ?_; rintro e w5 ⟨rfl, B5⟩; replace BB := BB.trans (B5.mono BB.size)) | (go_at_call 19; refine (CB.out _ (HSS.out _ BB).2.2.1).mono ?_; rintro e w5 ⟨rfl, B5⟩; replace BB := BB.trans (B5.mono BB.size)) | (go_at_call 16; refine (CC.out _ (HSS.out _ BB).2.2.1).mono ?_; rintro e w5 ⟨rfl, B5⟩; replace BB := BB.trans (B5.mono BB.size)) | (go_at_call 24; refine (CE.out _ (HSS.out _ BB).2.2.2.1).mono ?_; rintro e w5 ⟨rfl, B5⟩; replace BB := BB.trans (B5.mono BB.size)) | (go_at_call 20; refine (CF.out _).mono ?_; rintro e w5 ⟨rfl, B5⟩; replace BB := BB.trans (B5.mono BB.size)) | (go_at_call 25; refine (CG.out _).mono ?_; rintro e w5 ⟨rfl, B5⟩; replace BB := BB.trans (B5.mono BB.size)))
        all_goals have HZ := hide (HSS.out _ BB).2.2.2.2
        all_goals clear BB
        all_goals go_wp2
        all_goals go_ret
        all_goals exact ⟨rfl, HZ.out⟩
  · go_enter Try.func4, Try.ntmps4
    go_wp2_with fail
    refine (fnBlocks.big_yes a len cap w hlen).mono ?_
    rintro e w1 ⟨rfl, rfl⟩
    go_wp2
    go_ret
    exact ⟨rfl, Below.refl _ _⟩
end Go.Proofs.Ytfffiboggpjjkaa.fnSlots
