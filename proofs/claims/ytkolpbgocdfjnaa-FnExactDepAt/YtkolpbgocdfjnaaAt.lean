/- spec.DepAt and impl.DepAt by their contracts. -/
import Derived.Test.YtkolpbgocdfjnaaTm
namespace Go.Proofs.Ytkolpbgocdfjnaa.Kit
open Go.RowKit
/-- Is it of a name. -/
def isNm (k : Int) : Bool := (k == 2 || k == 3) || k == 4
/-- The Id of the first of a name at this block and slot; 0 without one. -/
def depAt (b s : Int) : List Dp → Int
  | [] => 0
  | d :: r => if isNm d.kd = true ∧ d.bk = b ∧ d.sl = s then d.id else depAt b s r
theorem depAt_drop (b s : Int) (l : List Dp) (j : Nat) (h : j < l.length) : depAt b s (l.drop j) = if isNm l[j].kd = true ∧ l[j].bk = b ∧ l[j].sl = s then l[j].id else depAt b s (l.drop (j + 1)) := by
  rw [List.drop_eq_getElem_cons h]
  rfl
theorem depAt_end (b s : Int) (l : List Dp) (j : Nat) (h : l.length ≤ j) : depAt b s (l.drop j) = 0 := by
  rw [List.drop_eq_nil_of_le h]
  rfl
theorem isNm_no {k : Int} (h : isNm k = false) : ¬ k = 2 ∧ ¬ k = 3 ∧ ¬ k = 4 := by
  simp [isNm] at h
  exact ⟨h.1.1, h.1.2, h.2⟩
theorem isNm_yes {k : Int} (h : isNm k = true) : k = 2 ∨ k = 3 ∨ k = 4 := by
  simp [isNm] at h
  rcases h with (h | h) | h
  · exact .inl h
  · exact .inr (.inl h)
  · exact .inr (.inr h)
end Go.Proofs.Ytkolpbgocdfjnaa.Kit
namespace Go.Proofs.Ytkolpbgocdfjnaa
open Go.RowKit Kit
set_option maxRecDepth 100000 in
set_option maxHeartbeats 800000 in
theorem specName_any (id kd io pt bk sl : Int) (nm : ByteArray) (bt ot : Bool) (af : Int) (a : Option Addr) (n c : Nat) (w : World) :
    Calls Try.prog 41 #[.agg #[.int .i64 id, .int .i64 kd, .int .i64 io, .int .i64 pt, .int .i64 bk, .int .i64 sl, .string nm, .bool bt, .bool ot, .int .i64 af, .slice a n c]] w fun e w' => e = .returned (.bool (isNm kd)) ∧ Below w.heap.size w w' := by
  by_cases h2 : kd = 2
  · subst h2
    go_enter Try.func41, Try.ntmps41
    go_wp2
    go_ret
    exact ⟨rfl, by go_grown⟩
  · by_cases h3 : kd = 3
    · subst h3
      go_enter Try.func41, Try.ntmps41
      go_wp2
      go_ret
      exact ⟨rfl, by go_grown⟩
    · by_cases h4 : kd = 4
      · subst h4
        go_enter Try.func41, Try.ntmps41
        go_wp2
        go_ret
        exact ⟨rfl, by go_grown⟩
      · go_enter Try.func41, Try.ntmps41
        go_wp2
        go_ret
        exact ⟨rfl, by go_grown⟩
set_option maxRecDepth 100000 in
set_option maxHeartbeats 800000 in
theorem implName_any (id kd io pt bk sl : Int) (nm : ByteArray) (bt ot : Bool) (af : Int) (a : Option Addr) (n c : Nat) (w : World) :
    Calls Try.prog 44 #[.agg #[.int .i64 id, .int .i64 kd, .int .i64 io, .int .i64 pt, .int .i64 bk, .int .i64 sl, .string nm, .bool bt, .bool ot, .int .i64 af, .slice a n c]] w fun e w' => e = .returned (.bool (isNm kd)) ∧ Below w.heap.size w w' := by
  by_cases h2 : kd = 2
  · subst h2
    go_enter Try.func44, Try.ntmps44
    go_wp2
    go_ret
    exact ⟨rfl, by go_grown⟩
  · by_cases h3 : kd = 3
    · subst h3
      go_enter Try.func44, Try.ntmps44
      go_wp2
      go_ret
      exact ⟨rfl, by go_grown⟩
    · by_cases h4 : kd = 4
      · subst h4
        go_enter Try.func44, Try.ntmps44
        go_wp2
        go_ret
        exact ⟨rfl, by go_grown⟩
      · go_enter Try.func44, Try.ntmps44
        go_wp2
        go_ret
        exact ⟨rfl, by go_grown⟩
set_option maxRecDepth 100000 in
set_option maxHeartbeats 3200000 in
theorem specAt_any (u v iv bv dv pv : Value) (m : MD) (b s : Int) (w : World) (h : MR w u v iv bv dv pv m) (hl : m.ds.length ≤ 1048576) :
    Calls Try.prog 15 #[.agg #[u, v, iv, bv, dv, pv, .int .i64 m.nx], .int .i64 b, .int .i64 s] w fun e w' => e = .returned (.int .i64 (depAt b s m.ds)) ∧ Below w.heap.size w w' := by
  obtain ⟨a1, c1, a2, c2, a3, c3, a4, c4, a5, c5, a6, c6, rfl, rfl, rfl, rfl, rfl, rfl⟩ := h.form
  obtain ⟨a, c, ei, -, hc⟩ := h.p.dep
  simp only [Value.slice.injEq, true_and] at ei
  obtain ⟨rfl, rfl⟩ := ei
  have HC := hide hc
  obtain ⟨R, hR⟩ : ∃ R, depAt b s m.ds = R := ⟨_, rfl⟩
  have HR := hide hR
  have HA : Hid (∀ W, Below (w.alloc (.cells #[.slice a1 m.xs.length c1, .slice a2 m.ys.length c2, .slice a3 m.is.length c3, .slice a4 m.bs.length c4, .slice a5 m.fs.length c5, .slice a6 m.ds.length c6, .int .i64 m.nx] 37)).heap.size (w.alloc (.cells #[.slice a1 m.xs.length c1, .slice a2 m.ys.length c2, .slice a3 m.is.length c3, .slice a4 m.bs.length c4, .slice a5 m.fs.length c5, .slice a6 m.ds.length c6, .int .i64 m.nx] 37)) W → W.cell? ⟨w.heap.size, 5, none⟩ = some (.slice a6 m.ds.length c6)) := fun W bb => ((AtC.new w 37 _).over bb).cell 5
  have HW : Hid (∀ W, Below (w.alloc (.cells #[.slice a1 m.xs.length c1, .slice a2 m.ys.length c2, .slice a3 m.is.length c3, .slice a4 m.bs.length c4, .slice a5 m.fs.length c5, .slice a6 m.ds.length c6, .int .i64 m.nx] 37)).heap.size (w.alloc (.cells #[.slice a1 m.xs.length c1, .slice a2 m.ys.length c2, .slice a3 m.is.length c3, .slice a4 m.bs.length c4, .slice a5 m.fs.length c5, .slice a6 m.ds.length c6, .int .i64 m.nx] 37)) W → Below w.heap.size w W) := fun W bb => ((Below.refl _ w).alloc (Nat.le_refl _) _).trans (bb.mono (by simp))
  clear hc h
  rw [hR]
  clear hR
  go_enter Try.func15, Try.ntmps15
  go_wp2
  generalize w.alloc (.cells #[.slice a1 m.xs.length c1, .slice a2 m.ys.length c2, .slice a3 m.is.length c3, .slice a4 m.bs.length c4, .slice a5 m.fs.length c5, .slice a6 m.ds.length c6, .int .i64 m.nx] 37) = W0 at *
  go_loopw [7] (fun i wr => ∃ j : Nat, j ≤ m.ds.length ∧ i = .int .i64 j ∧ Hid (R = depAt b s (m.ds.drop j)) ∧ Hid (Below W0.heap.size W0 wr)) (fun i _ => m.ds.length - (intOf i).toNat)
  case atStart => exact ⟨0, Nat.zero_le _, rfl, by show R = _; rw [List.drop_zero, HR.out], Below.refl _ _⟩
  case round =>
    obtain ⟨j, hj, rfl, HD, HB⟩ := hrel
    have x5 := HA.out _ HB.out
    by_cases hlt : j < m.ds.length
    · obtain ⟨g, off, p, rfl, hg, mm, hp⟩ := HC.out j hlt
      have hb := HW.out _ HB.out
      have hd := depAt_drop b s m.ds j hlt
      rw [← HD.out] at hd
      obtain ⟨X, hX⟩ : ∃ X, m.ds[j] = X := ⟨_, rfl⟩
      rw [hX] at mm hp hd
      obtain ⟨id, kd, io, pt, bk, sl, nm, bt, ot, af, bl⟩ := X
      simp only at hp hd
      obtain ⟨pa, pc, rfl⟩ := hp.form
      simp only [DCells] at mm
      obtain ⟨m0, m1, m2, m3, m4, m5, m6, m7, m8, m9, m10⟩ := mm
      have q0 : wr.cell? ⟨g, off + j * 11, none⟩ = some (.int .i64 id) := (hb.cell (p := ⟨g, off + j * 11, none⟩) hg).trans m0
      have q1 : wr.cell? ⟨g, off + j * 11 + 1, none⟩ = some (.int .i64 kd) := (hb.cell (p := ⟨g, off + j * 11 + 1, none⟩) hg).trans m1
      have q2 : wr.cell? ⟨g, off + j * 11 + 2, none⟩ = some (.int .i64 io) := (hb.cell (p := ⟨g, off + j * 11 + 2, none⟩) hg).trans m2
      have q3 : wr.cell? ⟨g, off + j * 11 + 3, none⟩ = some (.int .i64 pt) := (hb.cell (p := ⟨g, off + j * 11 + 3, none⟩) hg).trans m3
      have q4 : wr.cell? ⟨g, off + j * 11 + 4, none⟩ = some (.int .i64 bk) := (hb.cell (p := ⟨g, off + j * 11 + 4, none⟩) hg).trans m4
      have q5 : wr.cell? ⟨g, off + j * 11 + 5, none⟩ = some (.int .i64 sl) := (hb.cell (p := ⟨g, off + j * 11 + 5, none⟩) hg).trans m5
      have q6 : wr.cell? ⟨g, off + j * 11 + 6, none⟩ = some (.string nm) := (hb.cell (p := ⟨g, off + j * 11 + 6, none⟩) hg).trans m6
      have q7 : wr.cell? ⟨g, off + j * 11 + 7, none⟩ = some (.bool bt) := (hb.cell (p := ⟨g, off + j * 11 + 7, none⟩) hg).trans m7
      have q8 : wr.cell? ⟨g, off + j * 11 + 8, none⟩ = some (.bool ot) := (hb.cell (p := ⟨g, off + j * 11 + 8, none⟩) hg).trans m8
      have q9 : wr.cell? ⟨g, off + j * 11 + 9, none⟩ = some (.int .i64 af) := (hb.cell (p := ⟨g, off + j * 11 + 9, none⟩) hg).trans m9
      have q10 : wr.cell? ⟨g, off + j * 11 + 10, none⟩ = some (.slice pa bl.length pc) := (hb.cell (p := ⟨g, off + j * 11 + 10, none⟩) hg).trans m10
      have HD2 := hide hd
      have hsz := HB.out.size
      have j0 : (0 : Int) ≤ (j : Int) := by omega
      have j1 : (j : Int) < (m.ds.length : Int) := by omega
      clear m0 m1 m2 m3 m4 m5 m6 m7 m8 m9 m10 hb hd hp hX HD
      by_cases hN : isNm kd = true
      · have CN : Hid (∀ W, Calls Try.prog 41 #[.agg #[.int .i64 id, .int .i64 kd, .int .i64 io, .int .i64 pt, .int .i64 bk, .int .i64 sl, .string nm, .bool bt, .bool ot, .int .i64 af, .slice pa bl.length pc]] W fun e w' => e = .returned (.bool true) ∧ Below W.heap.size W w') := fun W => by
          have := specName_any id kd io pt bk sl nm bt ot af pa bl.length pc W
          rw [hN] at this
          exact this
        by_cases hbk : bk = b
        · by_cases hsl : sl = s
          · have HE : Hid (R = id) := by show R = id; rw [HD2.out, if_pos ⟨hN, hbk, hsl⟩]
            subst hbk hsl
            go_wp2_with (go_at_call 41; refine (CN.out _).mono ?_; rintro e w1 ⟨rfl, B1⟩; have K1 := (AtC.new wr 72 #[.int .i64 id, .int .i64 kd, .int .i64 io, .int .i64 pt, .int .i64 bk, .int .i64 sl, .string nm, .bool bt, .bool ot, .int .i64 af, .slice pa bl.length pc]).over B1; have v0 : w1.cell? ⟨wr.heap.size, 0, none⟩ = some (.int .i64 id) := K1.cell 0; have v4 : w1.cell? ⟨wr.heap.size, 4, none⟩ = some (.int .i64 bk) := K1.cell 4; have v5 : w1.cell? ⟨wr.heap.size, 5, none⟩ = some (.int .i64 sl) := K1.cell 5; have HB1 := hide (HB.out.trans ((((Below.refl _ wr).alloc (Nat.le_refl _) _).trans (B1.mono (by simp))).mono hsz)); clear K1 B1)
            go_ret
            exact ⟨by rw [HE.out]; rfl, HW.out _ HB1.out⟩
          · have HE : Hid (R = depAt b s (m.ds.drop (j + 1))) := by show R = _; rw [HD2.out, if_neg (fun e => hsl e.2.2)]
            subst hbk
            go_wp2_with (go_at_call 41; refine (CN.out _).mono ?_; rintro e w1 ⟨rfl, B1⟩; have K1 := (AtC.new wr 72 #[.int .i64 id, .int .i64 kd, .int .i64 io, .int .i64 pt, .int .i64 bk, .int .i64 sl, .string nm, .bool bt, .bool ot, .int .i64 af, .slice pa bl.length pc]).over B1; have v0 : w1.cell? ⟨wr.heap.size, 0, none⟩ = some (.int .i64 id) := K1.cell 0; have v4 : w1.cell? ⟨wr.heap.size, 4, none⟩ = some (.int .i64 bk) := K1.cell 4; have v5 : w1.cell? ⟨wr.heap.size, 5, none⟩ = some (.int .i64 sl) := K1.cell 5; have HB1 := hide (HB.out.trans ((((Below.refl _ wr).alloc (Nat.le_refl _) _).trans (B1.mono (by simp))).mono hsz)); clear K1 B1)
            go_roundw
            case rel => exact ⟨j + 1, by omega, by go_num, HE.out, HB1.out⟩
            case measure => simp [intOf]; omega
        · have HE : Hid (R = depAt b s (m.ds.drop (j + 1))) := by show R = _; rw [HD2.out, if_neg (fun e => hbk e.2.1)]
          go_wp2_with (go_at_call 41; refine (CN.out _).mono ?_; rintro e w1 ⟨rfl, B1⟩; have K1 := (AtC.new wr 72 #[.int .i64 id, .int .i64 kd, .int .i64 io, .int .i64 pt, .int .i64 bk, .int .i64 sl, .string nm, .bool bt, .bool ot, .int .i64 af, .slice pa bl.length pc]).over B1; have v0 : w1.cell? ⟨wr.heap.size, 0, none⟩ = some (.int .i64 id) := K1.cell 0; have v4 : w1.cell? ⟨wr.heap.size, 4, none⟩ = some (.int .i64 bk) := K1.cell 4; have v5 : w1.cell? ⟨wr.heap.size, 5, none⟩ = some (.int .i64 sl) := K1.cell 5; have HB1 := hide (HB.out.trans ((((Below.refl _ wr).alloc (Nat.le_refl _) _).trans (B1.mono (by simp))).mono hsz)); clear K1 B1)
          go_roundw
          case rel => exact ⟨j + 1, by omega, by go_num, HE.out, HB1.out⟩
          case measure => simp [intOf]; omega
      · have HE : Hid (R = depAt b s (m.ds.drop (j + 1))) := by show R = _; rw [HD2.out, if_neg (fun e => hN e.1)]
        replace hN : isNm kd = false := by simpa using hN
        have CN : Hid (∀ W, Calls Try.prog 41 #[.agg #[.int .i64 id, .int .i64 kd, .int .i64 io, .int .i64 pt, .int .i64 bk, .int .i64 sl, .string nm, .bool bt, .bool ot, .int .i64 af, .slice pa bl.length pc]] W fun e w' => e = .returned (.bool false) ∧ Below W.heap.size W w') := fun W => by
          have := specName_any id kd io pt bk sl nm bt ot af pa bl.length pc W
          rw [hN] at this
          exact this
        go_wp2_with (go_at_call 41; refine (CN.out _).mono ?_; rintro e w1 ⟨rfl, B1⟩; have K1 := (AtC.new wr 72 #[.int .i64 id, .int .i64 kd, .int .i64 io, .int .i64 pt, .int .i64 bk, .int .i64 sl, .string nm, .bool bt, .bool ot, .int .i64 af, .slice pa bl.length pc]).over B1; have v0 : w1.cell? ⟨wr.heap.size, 0, none⟩ = some (.int .i64 id) := K1.cell 0; have v4 : w1.cell? ⟨wr.heap.size, 4, none⟩ = some (.int .i64 bk) := K1.cell 4; have v5 : w1.cell? ⟨wr.heap.size, 5, none⟩ = some (.int .i64 sl) := K1.cell 5; have HB1 := hide (HB.out.trans ((((Below.refl _ wr).alloc (Nat.le_refl _) _).trans (B1.mono (by simp))).mono hsz)); clear K1 B1)
        go_roundw
        case rel => exact ⟨j + 1, by omega, by go_num, HE.out, HB1.out⟩
        case measure => simp [intOf]; omega
    · have HE : Hid (R = 0) := by show R = 0; rw [HD.out, depAt_end _ _ _ _ (by omega)]
      go_wp2
      go_ret
      exact ⟨by rw [HE.out]; rfl, HW.out _ HB.out⟩
set_option maxRecDepth 100000 in
set_option maxHeartbeats 3200000 in
theorem implAt_any (u v iv bv dv pv : Value) (m : MD) (b s : Int) (w : World) (h : MR w u v iv bv dv pv m) (hl : m.ds.length ≤ 1048576) :
    Calls Try.prog 17 #[.agg #[u, v, iv, bv, dv, pv, .int .i64 m.nx], .int .i64 b, .int .i64 s] w fun e w' => e = .returned (.int .i64 (depAt b s m.ds)) ∧ Below w.heap.size w w' := by
  obtain ⟨a1, c1, a2, c2, a3, c3, a4, c4, a5, c5, a6, c6, rfl, rfl, rfl, rfl, rfl, rfl⟩ := h.form
  obtain ⟨a, c, ei, -, hc⟩ := h.p.dep
  simp only [Value.slice.injEq, true_and] at ei
  obtain ⟨rfl, rfl⟩ := ei
  have HC := hide hc
  obtain ⟨R, hR⟩ : ∃ R, depAt b s m.ds = R := ⟨_, rfl⟩
  have HR := hide hR
  have HA : Hid (∀ W, Below (w.alloc (.cells #[.slice a1 m.xs.length c1, .slice a2 m.ys.length c2, .slice a3 m.is.length c3, .slice a4 m.bs.length c4, .slice a5 m.fs.length c5, .slice a6 m.ds.length c6, .int .i64 m.nx] 37)).heap.size (w.alloc (.cells #[.slice a1 m.xs.length c1, .slice a2 m.ys.length c2, .slice a3 m.is.length c3, .slice a4 m.bs.length c4, .slice a5 m.fs.length c5, .slice a6 m.ds.length c6, .int .i64 m.nx] 37)) W → W.cell? ⟨w.heap.size, 5, none⟩ = some (.slice a6 m.ds.length c6)) := fun W bb => ((AtC.new w 37 _).over bb).cell 5
  have HW : Hid (∀ W, Below (w.alloc (.cells #[.slice a1 m.xs.length c1, .slice a2 m.ys.length c2, .slice a3 m.is.length c3, .slice a4 m.bs.length c4, .slice a5 m.fs.length c5, .slice a6 m.ds.length c6, .int .i64 m.nx] 37)).heap.size (w.alloc (.cells #[.slice a1 m.xs.length c1, .slice a2 m.ys.length c2, .slice a3 m.is.length c3, .slice a4 m.bs.length c4, .slice a5 m.fs.length c5, .slice a6 m.ds.length c6, .int .i64 m.nx] 37)) W → Below w.heap.size w W) := fun W bb => ((Below.refl _ w).alloc (Nat.le_refl _) _).trans (bb.mono (by simp))
  clear hc h
  rw [hR]
  clear hR
  go_enter Try.func17, Try.ntmps17
  go_wp2
  generalize w.alloc (.cells #[.slice a1 m.xs.length c1, .slice a2 m.ys.length c2, .slice a3 m.is.length c3, .slice a4 m.bs.length c4, .slice a5 m.fs.length c5, .slice a6 m.ds.length c6, .int .i64 m.nx] 37) = W0 at *
  go_loopw [12] (fun i wr => ∃ j : Nat, j ≤ m.ds.length ∧ i = .int .i64 j ∧ Hid (R = depAt b s (m.ds.drop j)) ∧ Hid (Below W0.heap.size W0 wr)) (fun i _ => m.ds.length - (intOf i).toNat)
  case atStart => exact ⟨0, Nat.zero_le _, rfl, by show R = _; rw [List.drop_zero, HR.out], Below.refl _ _⟩
  case round =>
    obtain ⟨j, hj, rfl, HD, HB⟩ := hrel
    have x5 := HA.out _ HB.out
    by_cases hlt : j < m.ds.length
    · obtain ⟨g, off, p, rfl, hg, mm, hp⟩ := HC.out j hlt
      have hb := HW.out _ HB.out
      have hd := depAt_drop b s m.ds j hlt
      rw [← HD.out] at hd
      obtain ⟨X, hX⟩ : ∃ X, m.ds[j] = X := ⟨_, rfl⟩
      rw [hX] at mm hp hd
      obtain ⟨id, kd, io, pt, bk, sl, nm, bt, ot, af, bl⟩ := X
      simp only at hp hd
      obtain ⟨pa, pc, rfl⟩ := hp.form
      simp only [DCells] at mm
      obtain ⟨m0, m1, m2, m3, m4, m5, m6, m7, m8, m9, m10⟩ := mm
      have q0 : wr.cell? ⟨g, off + j * 11, none⟩ = some (.int .i64 id) := (hb.cell (p := ⟨g, off + j * 11, none⟩) hg).trans m0
      have q1 : wr.cell? ⟨g, off + j * 11 + 1, none⟩ = some (.int .i64 kd) := (hb.cell (p := ⟨g, off + j * 11 + 1, none⟩) hg).trans m1
      have q2 : wr.cell? ⟨g, off + j * 11 + 2, none⟩ = some (.int .i64 io) := (hb.cell (p := ⟨g, off + j * 11 + 2, none⟩) hg).trans m2
      have q3 : wr.cell? ⟨g, off + j * 11 + 3, none⟩ = some (.int .i64 pt) := (hb.cell (p := ⟨g, off + j * 11 + 3, none⟩) hg).trans m3
      have q4 : wr.cell? ⟨g, off + j * 11 + 4, none⟩ = some (.int .i64 bk) := (hb.cell (p := ⟨g, off + j * 11 + 4, none⟩) hg).trans m4
      have q5 : wr.cell? ⟨g, off + j * 11 + 5, none⟩ = some (.int .i64 sl) := (hb.cell (p := ⟨g, off + j * 11 + 5, none⟩) hg).trans m5
      have q6 : wr.cell? ⟨g, off + j * 11 + 6, none⟩ = some (.string nm) := (hb.cell (p := ⟨g, off + j * 11 + 6, none⟩) hg).trans m6
      have q7 : wr.cell? ⟨g, off + j * 11 + 7, none⟩ = some (.bool bt) := (hb.cell (p := ⟨g, off + j * 11 + 7, none⟩) hg).trans m7
      have q8 : wr.cell? ⟨g, off + j * 11 + 8, none⟩ = some (.bool ot) := (hb.cell (p := ⟨g, off + j * 11 + 8, none⟩) hg).trans m8
      have q9 : wr.cell? ⟨g, off + j * 11 + 9, none⟩ = some (.int .i64 af) := (hb.cell (p := ⟨g, off + j * 11 + 9, none⟩) hg).trans m9
      have q10 : wr.cell? ⟨g, off + j * 11 + 10, none⟩ = some (.slice pa bl.length pc) := (hb.cell (p := ⟨g, off + j * 11 + 10, none⟩) hg).trans m10
      have HD2 := hide hd
      have hsz := HB.out.size
      have j0 : (0 : Int) ≤ (j : Int) := by omega
      have j1 : (j : Int) < (m.ds.length : Int) := by omega
      clear m0 m1 m2 m3 m4 m5 m6 m7 m8 m9 m10 hb hd hp hX HD
      by_cases hN : isNm kd = true
      · have CN : Hid (∀ W, Calls Try.prog 44 #[.agg #[.int .i64 id, .int .i64 kd, .int .i64 io, .int .i64 pt, .int .i64 bk, .int .i64 sl, .string nm, .bool bt, .bool ot, .int .i64 af, .slice pa bl.length pc]] W fun e w' => e = .returned (.bool true) ∧ Below W.heap.size W w') := fun W => by
          have := implName_any id kd io pt bk sl nm bt ot af pa bl.length pc W
          rw [hN] at this
          exact this
        by_cases hbk : bk = b
        · by_cases hsl : sl = s
          · have HE : Hid (R = id) := by show R = id; rw [HD2.out, if_pos ⟨hN, hbk, hsl⟩]
            subst hbk hsl
            go_wp2_with (go_at_call 44; refine (CN.out _).mono ?_; rintro e w1 ⟨rfl, B1⟩; have K1 := (AtC.new wr 72 #[.int .i64 id, .int .i64 kd, .int .i64 io, .int .i64 pt, .int .i64 bk, .int .i64 sl, .string nm, .bool bt, .bool ot, .int .i64 af, .slice pa bl.length pc]).over B1; have v0 : w1.cell? ⟨wr.heap.size, 0, none⟩ = some (.int .i64 id) := K1.cell 0; have v4 : w1.cell? ⟨wr.heap.size, 4, none⟩ = some (.int .i64 bk) := K1.cell 4; have v5 : w1.cell? ⟨wr.heap.size, 5, none⟩ = some (.int .i64 sl) := K1.cell 5; have HB1 := hide (HB.out.trans ((((Below.refl _ wr).alloc (Nat.le_refl _) _).trans (B1.mono (by simp))).mono hsz)); clear K1 B1)
            go_ret
            exact ⟨by rw [HE.out]; rfl, HW.out _ HB1.out⟩
          · have HE : Hid (R = depAt b s (m.ds.drop (j + 1))) := by show R = _; rw [HD2.out, if_neg (fun e => hsl e.2.2)]
            subst hbk
            go_wp2_with (go_at_call 44; refine (CN.out _).mono ?_; rintro e w1 ⟨rfl, B1⟩; have K1 := (AtC.new wr 72 #[.int .i64 id, .int .i64 kd, .int .i64 io, .int .i64 pt, .int .i64 bk, .int .i64 sl, .string nm, .bool bt, .bool ot, .int .i64 af, .slice pa bl.length pc]).over B1; have v0 : w1.cell? ⟨wr.heap.size, 0, none⟩ = some (.int .i64 id) := K1.cell 0; have v4 : w1.cell? ⟨wr.heap.size, 4, none⟩ = some (.int .i64 bk) := K1.cell 4; have v5 : w1.cell? ⟨wr.heap.size, 5, none⟩ = some (.int .i64 sl) := K1.cell 5; have HB1 := hide (HB.out.trans ((((Below.refl _ wr).alloc (Nat.le_refl _) _).trans (B1.mono (by simp))).mono hsz)); clear K1 B1)
            go_roundw
            case rel => exact ⟨j + 1, by omega, by go_num, HE.out, HB1.out⟩
            case measure => simp [intOf]; omega
        · have HE : Hid (R = depAt b s (m.ds.drop (j + 1))) := by show R = _; rw [HD2.out, if_neg (fun e => hbk e.2.1)]
          go_wp2_with (go_at_call 44; refine (CN.out _).mono ?_; rintro e w1 ⟨rfl, B1⟩; have K1 := (AtC.new wr 72 #[.int .i64 id, .int .i64 kd, .int .i64 io, .int .i64 pt, .int .i64 bk, .int .i64 sl, .string nm, .bool bt, .bool ot, .int .i64 af, .slice pa bl.length pc]).over B1; have v0 : w1.cell? ⟨wr.heap.size, 0, none⟩ = some (.int .i64 id) := K1.cell 0; have v4 : w1.cell? ⟨wr.heap.size, 4, none⟩ = some (.int .i64 bk) := K1.cell 4; have v5 : w1.cell? ⟨wr.heap.size, 5, none⟩ = some (.int .i64 sl) := K1.cell 5; have HB1 := hide (HB.out.trans ((((Below.refl _ wr).alloc (Nat.le_refl _) _).trans (B1.mono (by simp))).mono hsz)); clear K1 B1)
          go_roundw
          case rel => exact ⟨j + 1, by omega, by go_num, HE.out, HB1.out⟩
          case measure => simp [intOf]; omega
      · have HE : Hid (R = depAt b s (m.ds.drop (j + 1))) := by show R = _; rw [HD2.out, if_neg (fun e => hN e.1)]
        replace hN : isNm kd = false := by simpa using hN
        have CN : Hid (∀ W, Calls Try.prog 44 #[.agg #[.int .i64 id, .int .i64 kd, .int .i64 io, .int .i64 pt, .int .i64 bk, .int .i64 sl, .string nm, .bool bt, .bool ot, .int .i64 af, .slice pa bl.length pc]] W fun e w' => e = .returned (.bool false) ∧ Below W.heap.size W w') := fun W => by
          have := implName_any id kd io pt bk sl nm bt ot af pa bl.length pc W
          rw [hN] at this
          exact this
        go_wp2_with (go_at_call 44; refine (CN.out _).mono ?_; rintro e w1 ⟨rfl, B1⟩; have K1 := (AtC.new wr 72 #[.int .i64 id, .int .i64 kd, .int .i64 io, .int .i64 pt, .int .i64 bk, .int .i64 sl, .string nm, .bool bt, .bool ot, .int .i64 af, .slice pa bl.length pc]).over B1; have v0 : w1.cell? ⟨wr.heap.size, 0, none⟩ = some (.int .i64 id) := K1.cell 0; have v4 : w1.cell? ⟨wr.heap.size, 4, none⟩ = some (.int .i64 bk) := K1.cell 4; have v5 : w1.cell? ⟨wr.heap.size, 5, none⟩ = some (.int .i64 sl) := K1.cell 5; have HB1 := hide (HB.out.trans ((((Below.refl _ wr).alloc (Nat.le_refl _) _).trans (B1.mono (by simp))).mono hsz)); clear K1 B1)
        go_roundw
        case rel => exact ⟨j + 1, by omega, by go_num, HE.out, HB1.out⟩
        case measure => simp [intOf]; omega
    · have HE : Hid (R = 0) := by show R = 0; rw [HD.out, depAt_end _ _ _ _ (by omega)]
      go_wp2
      go_ret
      exact ⟨by rw [HE.out]; rfl, HW.out _ HB.out⟩
end Go.Proofs.Ytkolpbgocdfjnaa
