
/- laws.szDep, laws.szDepS and laws.szMem by their contracts. -/
import Derived.Test.YtgjbenbodegnjaaDd
import Derived.Test.YtgjbenbodegnjaaSzD
namespace Go.Proofs.Ytgjbenbodegnjaa
open Go.RowKit Kit
set_option maxRecDepth 100000 in
set_option maxHeartbeats 800000 in
theorem szDep_L (id kd io pt bk sl : Int) (nm : ByteArray) (bt ot : Bool) (af : Int) (a : Option Addr) (n c : Nat) (L : Int) (w : World) (h0 : 0 ≤ L) (hL : L ≤ 1048576) (h1 : n ≤ maxLen) (h2 : nm.size ≤ maxLen) :
    Calls Try.prog 22 #[.agg #[.int .i64 id, .int .i64 kd, .int .i64 io, .int .i64 pt, .int .i64 bk, .int .i64 sl, .string nm, .bool bt, .bool ot, .int .i64 af, .slice a n c], .int .i64 L] w fun e w' => ∃ r, e = .returned (.int .i64 r) ∧ (r = -1 ∨ (0 ≤ r ∧ r ≤ L ∧ n ≤ 1048576 ∧ nm.size ≤ 1048576)) ∧ Below w.heap.size w w' := by
  have h3 : n ≤ 9223372036854775807 := h1
  have h4 : nm.size ≤ 9223372036854775807 := h2
  clear h1 h2
  by_cases hn : L - (nm.size : Int) < 0
  · go_enter Try.func22, Try.ntmps22
    go_wp2
    go_ret
    exact ⟨_, rfl, .inl rfl, by go_grown⟩
  · by_cases hm : L - (nm.size : Int) - (n : Int) < 0
    · go_enter Try.func22, Try.ntmps22
      go_wp2
      go_ret
      exact ⟨_, rfl, .inl rfl, by go_grown⟩
    · go_enter Try.func22, Try.ntmps22
      go_wp2
      go_ret
      exact ⟨_, rfl, .inr ⟨by omega, by omega, by omega, by omega⟩, by go_grown⟩
set_option maxRecDepth 100000 in
set_option maxHeartbeats 1600000 in
theorem szDepS_L (v : Value) (xs : List Dp) (L0 : Int) (w : World) (hv : RN KDep w v xs) (h0 : 0 ≤ L0) (h1 : L0 ≤ 1048576) (hlen : xs.length ≤ maxLen) (hbig : ∀ (j : Nat) (h : j < xs.length), xs[j].bl.length ≤ maxLen ∧ xs[j].nm.size ≤ maxLen) :
    Calls Try.prog 11 #[v, .int .i64 L0] w fun e w' => ∃ r, e = .returned (.int .i64 r) ∧ (r = -1 ∨ (0 ≤ r ∧ r ≤ L0 ∧ xs.length ≤ 1048576 ∧ ∀ (j : Nat) (h : j < xs.length), xs[j].bl.length ≤ 1048576 ∧ xs[j].nm.size ≤ 1048576)) ∧ Below w.heap.size w w' := by
  obtain ⟨a, c, rfl, -, hc⟩ := hv.dep
  have HC := hide hc
  have HG := hide hbig
  have hl' : xs.length ≤ 9223372036854775807 := hlen
  clear hc hbig hlen hv
  by_cases hn : L0 - (xs.length : Int) < 0
  · go_enter Try.func11, Try.ntmps11
    go_wp2
    go_ret
    exact ⟨-1, rfl, .inl rfl, Below.refl _ _⟩
  · have hn2 : decide (L0 - (xs.length : Int) < 0) = false := by simp; omega
    go_enter Try.func11, Try.ntmps11
    go_wp2
    go_loopw [1, 5] (fun x i wr => ∃ (j : Nat) (L : Int), j ≤ xs.length ∧ i = .int .i64 j ∧ x = .int .i64 L ∧ 0 ≤ L ∧ L ≤ L0 ∧ Hid (∀ (k : Nat) (h : k < xs.length), k < j → xs[k].bl.length ≤ 1048576 ∧ xs[k].nm.size ≤ 1048576) ∧ Below w.heap.size w wr) (fun _ i _ => xs.length - (intOf i).toNat)
    case atStart => exact ⟨0, _, Nat.zero_le _, rfl, rfl, by omega, by omega, fun _ _ h => absurd h (Nat.not_lt_zero _), Below.refl _ _⟩
    case round =>
      obtain ⟨j, L, hj, rfl, rfl, hL0, hL1, HS, hb⟩ := hrel
      by_cases hlt : j < xs.length
      · obtain ⟨g, off, p, rfl, hg, m, hp⟩ := HC.out j hlt
        have hgt := HG.out j hlt
        have HS2 : Hid (∀ (n : Nat) (t : ByteArray), xs[j].bl.length = n → xs[j].nm = t → n ≤ 1048576 → t.size ≤ 1048576 → ∀ (k : Nat) (h : k < xs.length), k < j + 1 → xs[k].bl.length ≤ 1048576 ∧ xs[k].nm.size ≤ 1048576) := fun n t e1 e2 h1 h2 k hk hkj => by
          by_cases hkk : k = j
          · subst hkk; rw [e1, e2]; exact ⟨h1, h2⟩
          · exact HS.out k hk (by omega)
        obtain ⟨X, hX⟩ : ∃ X, xs[j] = X := ⟨_, rfl⟩
        rw [hX] at m hp hgt HS2
        obtain ⟨id, kd, io, pt, bk, sl, nm, bt, ot, af, bl⟩ := X
        simp only at hp hgt HS2
        obtain ⟨pa, pc, rfl⟩ := hp.form
        obtain ⟨n, hnl⟩ : ∃ n, bl.length = n := ⟨_, rfl⟩
        rw [hnl] at m hgt HS2
        simp only [DCells] at m
        obtain ⟨m0, m1, m2, m3, m4, m5, m6, m7, m8, m9, m10⟩ := m
        have q0 : wr.cell? ⟨g, off + j * 11, none⟩ = some (.int .i64 id) := (hb.cell (p := ⟨g, off + j * 11, none⟩) hg).trans m0
        have q1 : wr.cell? ⟨g, off + j * 11 + 1, none⟩ = some (.int .i64 kd) := (hb.cell (p := ⟨g, off + j * 11 + 1, none⟩) hg).trans m1
        have q2 : wr.cell? ⟨g, off + j * 11 + 2, none⟩ = some (.int .i64 io) := (hb.cell (p := ⟨g, off + j * 11 + 2, none⟩) hg).trans m2
        have q3 : wr.cell? ⟨g, off + j * 11 + 3, none⟩ = some (.int .i64 pt) := (hb.cell (p := ⟨g, off + j * 11 + 3, none⟩) hg).trans m3
        have q4 : wr.cell? ⟨g, off + j * 11 + 4, none⟩ = some (.int .i64 bk) := (hb.cell (p := ⟨g, off + j * 11 + 4, none⟩) hg).trans m4
        have q5 : wr.cell? ⟨g, off + j * 11 + 5, none⟩ = some (.int .i64 sl) := (hb.cell (p := ⟨g, off + j * 11 + 5, none⟩) hg).trans m5
        have q6 : wr.cell? ⟨g, off + j * 11 + 6, none⟩ = some (.string nm) := (hb.cell (p := ⟨g, off + j * 11 + 6, none⟩) hg).trans m6
        have q7 : wr.cell? ⟨g, off + j * 11 + 7, none⟩ = some (.bool bt) := (hb.cell (p := ⟨g, off + j * 11 + 7, none⟩) hg).trans m7
        have q8 : wr.cell? ⟨g, off + j * 11 + 8, none⟩ = some (.bool ot) := (hb.cell (p := ⟨g, off + j * 11 + 8, none⟩) hg).trans m8
        have q9 : wr.cell? ⟨g, off + j * 11 + 9, none⟩ = some (.int .i64 af) := (hb.cell (p := ⟨g, off + j * 11 + 9, none⟩) hg).trans m9
        have q10 : wr.cell? ⟨g, off + j * 11 + 10, none⟩ = some (.slice pa n pc) := (hb.cell (p := ⟨g, off + j * 11 + 10, none⟩) hg).trans m10
        have HGT := hide hgt
        have HB := hide hb
        have hsz := hb.size
        have j0 : (0 : Int) ≤ (j : Int) := by omega
        have j1 : (j : Int) < (xs.length : Int) := by omega
        clear m0 m1 m2 m3 m4 m5 m6 m7 m8 m9 m10 hb hgt hp hX hnl
        go_wp2_with (go_at_call 22; refine (szDep_L id kd io pt bk sl nm bt ot af _ n _ _ _ hL0 (by omega) HGT.out.1 HGT.out.2).mono ?_; rintro e w1 ⟨r, rfl, hr, B1⟩; have HB1 := hide (HB.out.trans (B1.mono hsz)); have HRR := hide hr; have hr1 : -1 ≤ r := (by { rcases hr with h | h <;> omega }); clear hr B1)
        · go_ret
          exact ⟨-1, rfl, .inl rfl, HB1.out⟩
        · have hr0 : 0 ≤ r := by omega
          have hrr : r ≤ L ∧ n ≤ 1048576 ∧ nm.size ≤ 1048576 := by rcases HRR.out with h | h <;> omega
          go_roundw
          case rel => exact ⟨j + 1, r, by omega, by go_num, rfl, hr0, by omega, HS2.out n nm rfl rfl hrr.2.1 hrr.2.2, HB1.out⟩
          case measure => simp [intOf]; omega
      · have HB := hide hb
        clear hb
        go_wp2
        go_ret
        exact ⟨L, rfl, .inr ⟨hL0, hL1, by omega, fun k hk => HS.out k hk (by omega)⟩, HB.out⟩
theorem szBoolS_L (a : Option Addr) (n c : Nat) (L : Int) (w : World) (h0 : 0 ≤ L) (hL : L ≤ 1048576) (h1 : n ≤ maxLen) :
    Calls Try.prog 10 #[.slice a n c, .int .i64 L] w fun e w' => ∃ r, e = .returned (.int .i64 r) ∧ (r = -1 ∨ (0 ≤ r ∧ r ≤ L ∧ n ≤ 1048576)) ∧ Below w.heap.size w w' := by
  have h3 : n ≤ 9223372036854775807 := h1
  clear h1
  by_cases hn : L - (n : Int) < 0
  · go_enter Try.func10, Try.ntmps10
    go_wp2
    go_ret
    exact ⟨_, rfl, .inl rfl, by go_grown⟩
  · go_enter Try.func10, Try.ntmps10
    go_wp2
    go_ret
    exact ⟨_, rfl, .inr ⟨by omega, by omega, by omega⟩, by go_grown⟩
set_option maxRecDepth 100000 in
set_option maxHeartbeats 1600000 in
theorem szMem_L (u v iv bv dv pv : Value) (m : MD) (L0 : Int) (w : World) (h : MR w u v iv bv dv pv m) (hL : 0 ≤ L0) (hL1 : L0 ≤ 1048576) (hB : BigM maxLen m) :
    Calls Try.prog 4 #[.agg #[u, v, iv, bv, dv, pv, .int .i64 m.nx], .int .i64 L0] w fun e w' => ∃ r, e = .returned (.int .i64 r) ∧ (r = -1 ∨ (0 ≤ r ∧ r ≤ L0 ∧ BigM 1048576 m)) ∧ Below w.heap.size w w' := by
  have H := hide h
  have HG := hide hB
  have hfl : m.fs.length ≤ 9223372036854775807 := hB.f
  obtain ⟨a1, c1, a2, c2, a3, c3, a4, c4, a5, c5, a6, c6, rfl, rfl, rfl, rfl, rfl, rfl⟩ := h.form
  clear h hB
  go_enter Try.func4, Try.ntmps4
  go_wp2_with fail
  refine (szDisk_L _ _ _ _ m.xs m.ys m.is m.bs _ _ (H.out.d.alloc _).a (H.out.d.alloc _).b (H.out.d.alloc _).i (H.out.d.alloc _).k hL hL1 HG.out.d).mono ?_
  rintro e w1 ⟨r, rfl, hr, B1⟩
  have K0 : AtC w1 w.heap.size 31 #[.slice a1 m.xs.length c1, .slice a2 m.ys.length c2, .slice a3 m.is.length c3, .slice a4 m.bs.length c4, .slice a5 m.fs.length c5, .slice a6 m.ds.length c6, .int .i64 m.nx] := (AtC.new w 31 _).over B1
  have BW : Below w.heap.size w w1 := ((Below.refl _ w).alloc (Nat.le_refl _) _).trans (B1.mono (by simp))
  have p4 : w1.cell? ⟨w.heap.size, 4, none⟩ = some (.slice a5 m.fs.length c5) := K0.cell 4
  have p5 : w1.cell? ⟨w.heap.size, 5, none⟩ = some (.slice a6 m.ds.length c6) := K0.cell 5
  have HR := hide hr
  have HBW := hide BW
  have HKL := hide K0.lt
  have hr1 : -1 ≤ r := by rcases hr with h | h <;> omega
  have hr2 : r ≤ 1048576 := by rcases hr with h | h <;> omega
  clear hr B1 K0 BW
  by_cases hneg : r < 0
  · go_wp2
    go_ret
    exact ⟨_, rfl, .inl rfl, HBW.out⟩
  · have HD := hide (HR.out.resolve_left (by omega))
    have n1 : decide (r < 0) = false := by simp; omega
    go_wp2_with fail
    refine (szBoolS_L _ m.fs.length _ _ w1 (by omega) (by omega) HG.out.f).mono ?_
    rintro e w1b ⟨r2, rfl, hr2', B1b⟩
    have HBW2 := hide (HBW.out.trans (B1b.mono HBW.out.size))
    have p5b : w1b.cell? ⟨w.heap.size, 5, none⟩ = some (.slice a6 m.ds.length c6) := (B1b.cell (p := ⟨w.heap.size, 5, none⟩) (by have := HBW.out.size; have := HKL.out; simpa using this)).trans p5
    have HR2 := hide hr2'
    have hr2a : -1 ≤ r2 := by rcases hr2' with h | h <;> omega
    have hr2b : r2 ≤ 1048576 := by rcases hr2' with h | h <;> omega
    clear hr2' B1b p4 p5 n1
    by_cases hf : r2 < 0
    · go_wp2
      go_ret
      exact ⟨_, rfl, .inl rfl, HBW2.out⟩
    · have hf2 := HR2.out.resolve_left (by omega)
      have HF2 := hide hf2
      have n2 : decide (r2 < 0) = false := by simp; omega
      clear hf2
      go_wp2_with fail
      refine (szDepS_L _ m.ds _ _ (H.out.p.below HBW2.out (Nat.le_refl _)) (by omega) (by omega) HG.out.l (fun j hj => ⟨HG.out.b j hj, HG.out.t j hj⟩)).mono ?_
      rintro e w2 ⟨r3, rfl, hr3, B2⟩
      have HB2 := hide (HBW2.out.trans (B2.mono HBW2.out.size))
      have HR3 := hide hr3
      have hr4 : -1 ≤ r3 := by rcases hr3 with h | h <;> omega
      clear hr3 B2 p5b n2
      by_cases hn3 : r3 < 0
      · go_wp2
        go_ret
        exact ⟨_, rfl, .inl rfl, HB2.out⟩
      · have hh := HR3.out.resolve_left (by omega)
        have hd := HD.out
        have hf3 := HF2.out
        have HF : Hid (0 ≤ r3 ∧ r3 ≤ L0 ∧ BigM 1048576 m) := ⟨by omega, by omega, hd.2.2, hf3.2.2, hh.2.2.1, fun j hj => (hh.2.2.2 j hj).1, fun j hj => (hh.2.2.2 j hj).2⟩
        clear hh hd hf3
        go_wp2
        go_ret
        exact ⟨_, rfl, .inr HF.out, HB2.out⟩
end Go.Proofs.Ytgjbenbodegnjaa
