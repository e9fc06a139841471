
/- laws.szDisk and what it calls, by their contracts, whatever is left. -/
import Derived.Test.YtgjbenbodegnjaaDk
import Derived.Test.YtgjbenbodegnjaaBTo
import Derived.Test.YtgjbenbodegnjaaITo
import Derived.Test.YtgjbenbodegnjaaKTo
namespace Go.Proofs.Ytgjbenbodegnjaa.Kit
open Go.RowKit
theorem R3.ino {w : World} {v : Value} {xs : List Ino} (h : R3 KI w v xs) : ∃ a cap, v = .slice a xs.length cap ∧ xs.length ≤ cap ∧ ∀ (j : Nat) (h : j < xs.length), ∃ g off p, a = some ⟨g, off, none⟩ ∧ g < w.heap.size ∧ w.cell? ⟨g, off + j * 3, none⟩ = some (.int .i64 xs[j].1) ∧ w.cell? ⟨g, off + j * 3 + 1, none⟩ = some (.int .i64 xs[j].2.1) ∧ w.cell? ⟨g, off + j * 3 + 2, none⟩ = some p ∧ RInts w p xs[j].2.2 := by
  obtain ⟨a, cap, e, hc, h⟩ := h
  refine ⟨a, cap, e, hc, fun j hj => ?_⟩
  obtain ⟨g, off, t, e1, hg, c0, c1, c2, r0, r1, r2⟩ := h j hj
  exact ⟨g, off, t.2.2, e1, hg, by rw [c0, r0], by rw [c1, r1], c2, r2⟩
theorem R3.blk {w : World} {v : Value} {xs : List Blk} (h : R3 KB w v xs) : ∃ a cap, v = .slice a xs.length cap ∧ xs.length ≤ cap ∧ ∀ (j : Nat) (h : j < xs.length), ∃ g off p, a = some ⟨g, off, none⟩ ∧ g < w.heap.size ∧ w.cell? ⟨g, off + j * 3, none⟩ = some (.bool xs[j].1) ∧ w.cell? ⟨g, off + j * 3 + 1, none⟩ = some p ∧ w.cell? ⟨g, off + j * 3 + 2, none⟩ = some (.string xs[j].2.2) ∧ RSl w p xs[j].2.1 := by
  obtain ⟨a, cap, e, hc, h⟩ := h
  refine ⟨a, cap, e, hc, fun j hj => ?_⟩
  obtain ⟨g, off, t, e1, hg, c0, c1, c2, r0, r1, r2⟩ := h j hj
  exact ⟨g, off, t.2.1, e1, hg, by rw [c0, r0], c1, by rw [c2, r2], r1⟩
/-- A block whose texts are not longer than n. -/
def bigB (n : Nat) (b : Blk) : Prop := b.2.1.length ≤ n ∧ (∀ (j : Nat) (h : j < b.2.1.length), b.2.1[j].1.size ≤ n) ∧ b.2.2.size ≤ n
/-- Lists and texts of a disk are not longer than n. -/
structure Big (n : Nat) (xs ys : List Bool) (is : List Ino) (bs : List Blk) : Prop where
  x : xs.length ≤ n
  y : ys.length ≤ n
  i : is.length ≤ n
  p : ∀ (j : Nat) (h : j < is.length), is[j].2.2.length ≤ n
  b : bs.length ≤ n
  s : ∀ (j : Nat) (h : j < bs.length), bigB n bs[j]
end Go.Proofs.Ytgjbenbodegnjaa.Kit
namespace Go.Proofs.Ytgjbenbodegnjaa
open Go.RowKit Kit

set_option maxHeartbeats 800000 in
theorem szBits_L (a1 a2 : Option Addr) (n m c1 c2 : Nat) (L : Int) (w : World) (h0 : 0 ≤ L) (hL : L ≤ 1048576) (h1 : n ≤ maxLen) (h2 : m ≤ maxLen) :
    Calls Try.prog 19 #[.agg #[.slice a1 n c1, .slice a2 m c2], .int .i64 L] w fun e w' => ∃ r, e = .returned (.int .i64 r) ∧ (r = -1 ∨ (0 ≤ r ∧ r ≤ L ∧ n ≤ 1048576 ∧ m ≤ 1048576)) ∧ Below w.heap.size w w' := by
  have h3 : n ≤ 9223372036854775807 := h1
  have h4 : m ≤ 9223372036854775807 := h2
  clear h1 h2
  by_cases hn : L - (n : Int) < 0
  · go_enter Try.func19, Try.ntmps19
    go_wp2
    go_ret
    exact ⟨_, rfl, .inl rfl, by go_grown⟩
  · by_cases hm : L - (n : Int) - (m : Int) < 0
    · go_enter Try.func19, Try.ntmps19
      go_wp2
      go_ret
      exact ⟨_, rfl, .inl rfl, by go_grown⟩
    · go_enter Try.func19, Try.ntmps19
      go_wp2
      go_ret
      exact ⟨_, rfl, .inr ⟨by omega, by omega, by omega, by omega⟩, by go_grown⟩
set_option maxHeartbeats 800000 in
theorem szIno_L (k l : Int) (a : Option Addr) (n c : Nat) (L : Int) (w : World) (h0 : 0 ≤ L) (hL : L ≤ 1048576) (h1 : n ≤ maxLen) :
    Calls Try.prog 32 #[.agg #[.int .i64 k, .int .i64 l, .slice a n c], .int .i64 L] w fun e w' => ∃ r, e = .returned (.int .i64 r) ∧ (r = -1 ∨ (0 ≤ r ∧ r ≤ L ∧ n ≤ 1048576)) ∧ Below w.heap.size w w' := by
  have h3 : n ≤ 9223372036854775807 := h1
  clear h1
  by_cases hn : L - (n : Int) < 0
  · go_enter Try.func32, Try.ntmps32
    go_wp2
    go_ret
    exact ⟨_, rfl, .inl rfl, by go_grown⟩
  · go_enter Try.func32, Try.ntmps32
    go_wp2
    go_ret
    exact ⟨_, rfl, .inr ⟨by omega, by omega, by omega⟩, by go_grown⟩
set_option maxRecDepth 100000 in
set_option maxHeartbeats 1600000 in
theorem szInoS_L (v : Value) (xs : List Ino) (L0 : Int) (w : World) (hv : R3 KI w v xs) (h0 : 0 ≤ L0) (h1 : L0 ≤ 1048576) (hlen : xs.length ≤ maxLen) (hbig : ∀ (j : Nat) (h : j < xs.length), xs[j].2.2.length ≤ maxLen) :
    Calls Try.prog 20 #[v, .int .i64 L0] w fun e w' => ∃ r, e = .returned (.int .i64 r) ∧ (r = -1 ∨ (0 ≤ r ∧ r ≤ L0 ∧ xs.length ≤ 1048576 ∧ ∀ (j : Nat) (h : j < xs.length), xs[j].2.2.length ≤ 1048576)) ∧ Below w.heap.size w w' := by
  obtain ⟨a, c, rfl, -, hc⟩ := hv.ino
  have HC := hide hc
  have HG := hide hbig
  have hl' : xs.length ≤ 9223372036854775807 := hlen
  clear hc hbig hlen hv
  by_cases hn : L0 - (xs.length : Int) < 0
  · go_enter Try.func20, Try.ntmps20
    go_wp2
    go_ret
    exact ⟨-1, rfl, .inl rfl, Below.refl _ _⟩
  · have hn2 : decide (L0 - (xs.length : Int) < 0) = false := by simp; omega
    go_enter Try.func20, Try.ntmps20
    go_wp2
    go_loopw [1, 5] (fun x i wr => ∃ (j : Nat) (L : Int), j ≤ xs.length ∧ i = .int .i64 j ∧ x = .int .i64 L ∧ 0 ≤ L ∧ L ≤ L0 ∧ Hid (∀ (k : Nat) (h : k < xs.length), k < j → xs[k].2.2.length ≤ 1048576) ∧ Below w.heap.size w wr) (fun _ i _ => xs.length - (intOf i).toNat)
    case atStart => exact ⟨0, _, Nat.zero_le _, rfl, rfl, by omega, by omega, fun _ _ h => absurd h (Nat.not_lt_zero _), Below.refl _ _⟩
    case round =>
      obtain ⟨j, L, hj, rfl, rfl, hL0, hL1, HS, hb⟩ := hrel
      by_cases hlt : j < xs.length
      · obtain ⟨g, off, p, rfl, hg, m1, m2, m3, hp⟩ := HC.out j hlt
        obtain ⟨pa, pc, rfl⟩ := hp.form
        have q1 := (hb.cell (p := ⟨g, off + j * 3, none⟩) hg).trans m1
        have q2 := (hb.cell (p := ⟨g, off + j * 3 + 1, none⟩) hg).trans m2
        have q3 := (hb.cell (p := ⟨g, off + j * 3 + 2, none⟩) hg).trans m3
        have hgt := HG.out j hlt
        obtain ⟨n, hn⟩ : ∃ n, xs[j].2.2.length = n := ⟨_, rfl⟩
        obtain ⟨y, hy⟩ : ∃ y, xs[j].1 = y := ⟨_, rfl⟩
        obtain ⟨z, hz⟩ : ∃ z, xs[j].2.1 = z := ⟨_, rfl⟩
        rw [hn] at q3 hgt
        rw [hy] at q1
        rw [hz] at q2
        have HT := hide hn
        have HGT := hide hgt
        have HB := hide hb
        have hsz := hb.size
        have j0 : (0 : Int) ≤ (j : Int) := by omega
        have j1 : (j : Int) < (xs.length : Int) := by omega
        clear m1 m2 m3 hy hz hb hgt hp hn
        go_wp2_with (go_at_call 32; refine (szIno_L _ _ _ _ _ _ _ hL0 (by omega) HGT.out).mono ?_; rintro e w1 ⟨r, rfl, hr, B1⟩; have HB1 := hide (HB.out.trans (B1.mono hsz)); have HRR := hide hr; have hr1 : -1 ≤ r := by { rcases hr with h | h <;> omega }; clear B1 hr)
        · go_ret
          exact ⟨-1, rfl, .inl rfl, HB1.out⟩
        · have hr0 : 0 ≤ r := by omega
          have hrr : r ≤ L ∧ n ≤ 1048576 := by rcases HRR.out with h | h <;> omega
          go_roundw
          case rel =>
            refine ⟨j + 1, r, by omega, by go_num, rfl, hr0, by omega, fun k hk hkj => ?_, HB1.out⟩
            by_cases hkk : k = j
            · subst hkk; rw [HT.out]; omega
            · exact HS.out k hk (by omega)
          case measure => simp [intOf]; omega
      · have HB := hide hb
        clear hb
        go_wp2
        go_ret
        exact ⟨L, rfl, .inr ⟨hL0, hL1, by omega, fun k hk => HS.out k hk (by omega)⟩, HB.out⟩
set_option maxRecDepth 100000 in
set_option maxHeartbeats 1600000 in
theorem szS_L (v : Value) (xs : List Sl) (L0 : Int) (w : World) (hv : RSl w v xs) (h0 : 0 ≤ L0) (h1 : L0 ≤ 1048576) (hlen : xs.length ≤ maxLen) (hbig : ∀ (j : Nat) (h : j < xs.length), xs[j].1.size ≤ maxLen) :
    Calls Try.prog 41 #[v, .int .i64 L0] w fun e w' => ∃ r, e = .returned (.int .i64 r) ∧ (r = -1 ∨ (0 ≤ r ∧ r ≤ L0 ∧ xs.length ≤ 1048576 ∧ ∀ (j : Nat) (h : j < xs.length), xs[j].1.size ≤ 1048576)) ∧ Below w.heap.size w w' := by
  obtain ⟨a, c, rfl, -, hc⟩ := hv
  have HC := hide hc
  have HG := hide hbig
  have hl' : xs.length ≤ 9223372036854775807 := hlen
  clear hc hbig hlen
  by_cases hn : L0 - (xs.length : Int) < 0
  · go_enter Try.func41, Try.ntmps41
    go_wp2
    go_ret
    exact ⟨-1, rfl, .inl rfl, Below.refl _ _⟩
  · have hn2 : decide (L0 - (xs.length : Int) < 0) = false := by simp; omega
    go_enter Try.func41, Try.ntmps41
    go_wp2
    go_loopw [1, 5] (fun x i wr => ∃ (j : Nat) (L : Int), j ≤ xs.length ∧ i = .int .i64 j ∧ x = .int .i64 L ∧ 0 ≤ L ∧ L ≤ L0 ∧ Hid (∀ (k : Nat) (h : k < xs.length), k < j → xs[k].1.size ≤ 1048576) ∧ Below w.heap.size w wr) (fun _ i _ => xs.length - (intOf i).toNat)
    case atStart => exact ⟨0, _, Nat.zero_le _, rfl, rfl, by omega, by omega, fun _ _ h => absurd h (Nat.not_lt_zero _), Below.refl _ _⟩
    case round =>
      obtain ⟨j, L, hj, rfl, rfl, hL0, hL1, HS, hb⟩ := hrel
      by_cases hlt : j < xs.length
      · obtain ⟨g, off, rfl, hg, m1, m2⟩ := HC.out j hlt
        have q1 := (hb.cell (p := ⟨g, off + j * 2, none⟩) hg).trans m1
        have q2 := (hb.cell (p := ⟨g, off + j * 2 + 1, none⟩) hg).trans m2
        have hgt := HG.out j hlt
        obtain ⟨t, ht⟩ : ∃ t, xs[j].1 = t := ⟨_, rfl⟩
        obtain ⟨z, hz⟩ : ∃ z, xs[j].2 = z := ⟨_, rfl⟩
        rw [ht] at q1 hgt
        rw [hz] at q2
        have HT := hide ht
        have HGT := hide hgt
        have HB := hide hb
        have hsz := hb.size
        have j0 : (0 : Int) ≤ (j : Int) := by omega
        have j1 : (j : Int) < (xs.length : Int) := by omega
        clear m1 m2 ht hz hb hgt
        go_wp2_with (go_at_call 44; refine (szOne_any _ _ _ _ hL0 (by omega) HGT.out).mono ?_; rintro e w1 ⟨r, rfl, hr, B1⟩; have HB1 := hide (HB.out.trans (B1.mono hsz)); have HRR := hide hr; have hr1 : -1 ≤ r := by { rcases hr with h | h <;> omega }; clear B1 hr)
        · go_ret
          exact ⟨-1, rfl, .inl rfl, HB1.out⟩
        · have hr0 : 0 ≤ r := by omega
          have hrr : r ≤ L ∧ (t.size : Int) ≤ L := by rcases HRR.out with h | h <;> omega
          go_roundw
          case rel =>
            refine ⟨j + 1, r, by omega, by go_num, rfl, hr0, by omega, fun k hk hkj => ?_, HB1.out⟩
            by_cases hkk : k = j
            · subst hkk; rw [HT.out]; omega
            · exact HS.out k hk (by omega)
          case measure => simp [intOf]; omega
      · have HB := hide hb
        clear hb
        go_wp2
        go_ret
        exact ⟨L, rfl, .inr ⟨hL0, hL1, by omega, fun k hk => HS.out k hk (by omega)⟩, HB.out⟩
set_option maxHeartbeats 800000 in
theorem szBlk_L (d : Bool) (v : Value) (t : ByteArray) (xs : List Sl) (L0 : Int) (w : World) (hv : RSl w v xs) (h0 : 0 ≤ L0) (h1 : L0 ≤ 1048576) (hB : bigB maxLen (d, xs, t)) :
    Calls Try.prog 33 #[.agg #[.bool d, v, .string t], .int .i64 L0] w fun e w' => ∃ r, e = .returned (.int .i64 r) ∧ (r = -1 ∨ (0 ≤ r ∧ r ≤ L0 ∧ bigB 1048576 (d, xs, t))) ∧ Below w.heap.size w w' := by
  obtain ⟨hlen, hbig, ht⟩ := hB
  have HV := hide hv
  have HL := hide hlen
  have HG := hide hbig
  obtain ⟨a, c, rfl, -⟩ := hv
  have ht' : t.size ≤ 9223372036854775807 := ht
  clear ht hlen hbig
  go_enter Try.func33, Try.ntmps33
  go_wp2_with fail
  refine (szS_L _ xs _ _ (HV.out.alloc _) h0 h1 HL.out HG.out).mono ?_
  rintro e w1 ⟨r, rfl, hr, B1⟩
  obtain ⟨r0, r1, r2, r3⟩ := ((AtC.new w 78 #[.bool d, .slice a xs.length c, .string t]).over B1).three
  have HB := hide (((Below.refl _ w).alloc (Nat.le_refl _) (.cells #[.bool d, .slice a xs.length c, .string t] 78)).trans (B1.mono (by simp)))
  have HR := hide hr
  have hr1 : -1 ≤ r := by rcases hr with h | h <;> omega
  have hr2 : r ≤ 1048576 := by rcases hr with h | h <;> omega
  clear hr B1
  by_cases hneg : r < 0
  · go_wp2
    go_ret
    exact ⟨-1, rfl, .inl rfl, HB.out⟩
  · by_cases h : r - (t.size : Int) < 0
    · go_wp2
      go_ret
      exact ⟨-1, rfl, .inl rfl, HB.out⟩
    · go_wp2
      go_ret
      have := HR.out.resolve_left (by omega)
      exact ⟨r - (t.size : Int), rfl, .inr ⟨by omega, by omega, this.2.2.1, this.2.2.2, show t.size ≤ 1048576 by omega⟩, HB.out⟩
set_option maxRecDepth 100000 in
set_option maxHeartbeats 1600000 in
theorem szBlkS_L (v : Value) (xs : List Blk) (L0 : Int) (w : World) (hv : R3 KB w v xs) (h0 : 0 ≤ L0) (h1 : L0 ≤ 1048576) (hlen : xs.length ≤ maxLen) (hbig : ∀ (j : Nat) (h : j < xs.length), bigB maxLen xs[j]) :
    Calls Try.prog 21 #[v, .int .i64 L0] w fun e w' => ∃ r, e = .returned (.int .i64 r) ∧ (r = -1 ∨ (0 ≤ r ∧ r ≤ L0 ∧ xs.length ≤ 1048576 ∧ ∀ (j : Nat) (h : j < xs.length), bigB 1048576 xs[j])) ∧ Below w.heap.size w w' := by
  obtain ⟨a, c, rfl, -, hc⟩ := hv.blk
  have HC := hide hc
  have HG := hide hbig
  have hl' : xs.length ≤ 9223372036854775807 := hlen
  clear hc hbig hlen hv
  by_cases hn : L0 - (xs.length : Int) < 0
  · go_enter Try.func21, Try.ntmps21
    go_wp2
    go_ret
    exact ⟨-1, rfl, .inl rfl, Below.refl _ _⟩
  · have hn2 : decide (L0 - (xs.length : Int) < 0) = false := by simp; omega
    go_enter Try.func21, Try.ntmps21
    go_wp2
    go_loopw [1, 5] (fun x i wr => ∃ (j : Nat) (L : Int), j ≤ xs.length ∧ i = .int .i64 j ∧ x = .int .i64 L ∧ 0 ≤ L ∧ L ≤ L0 ∧ Hid (∀ (k : Nat) (h : k < xs.length), k < j → bigB 1048576 xs[k]) ∧ Below w.heap.size w wr) (fun _ i _ => xs.length - (intOf i).toNat)
    case atStart => exact ⟨0, _, Nat.zero_le _, rfl, rfl, by omega, by omega, fun _ _ h => absurd h (Nat.not_lt_zero _), Below.refl _ _⟩
    case round =>
      obtain ⟨j, L, hj, rfl, rfl, hL0, hL1, HS, hb⟩ := hrel
      by_cases hlt : j < xs.length
      · obtain ⟨g, off, p, rfl, hg, m1, m2, m3, hp⟩ := HC.out j hlt
        have q1 := (hb.cell (p := ⟨g, off + j * 3, none⟩) hg).trans m1
        have q2 := (hb.cell (p := ⟨g, off + j * 3 + 1, none⟩) hg).trans m2
        have q3 := (hb.cell (p := ⟨g, off + j * 3 + 2, none⟩) hg).trans m3
        have hp2 := hp.below hb (Nat.le_refl _)
        have hgt := HG.out j hlt
        obtain ⟨y, hy⟩ : ∃ y, xs[j].1 = y := ⟨_, rfl⟩
        obtain ⟨s, hs⟩ : ∃ s, xs[j].2.1 = s := ⟨_, rfl⟩
        obtain ⟨z, hz⟩ : ∃ z, xs[j].2.2 = z := ⟨_, rfl⟩
        have hx : xs[j] = (y, s, z) := by rw [← hy, ← hs, ← hz]
        rw [hy] at q1
        rw [hz] at q3
        rw [hs] at hp2
        rw [hx] at hgt
        have HT := hide hx
        have HGT := hide hgt
        have HB := hide hb
        have HP := hide hp2
        have hsz := hb.size
        have j0 : (0 : Int) ≤ (j : Int) := by omega
        have j1 : (j : Int) < (xs.length : Int) := by omega
        clear m1 m2 m3 hy hz hs hb hgt hp hp2 hx
        go_wp2_with (go_at_call 33; refine (szBlk_L _ _ _ s _ _ HP.out hL0 (by omega) HGT.out).mono ?_; rintro e w1 ⟨r, rfl, hr, B1⟩; have HB1 := hide (HB.out.trans (B1.mono hsz)); have HRR := hide hr; have hr1 : -1 ≤ r := by { rcases hr with h | h <;> omega }; clear B1 hr)
        · go_ret
          exact ⟨-1, rfl, .inl rfl, HB1.out⟩
        · have hr0 : 0 ≤ r := by omega
          have hrr := HRR.out.resolve_left (by omega)
          have hrL := hrr.2.1
          have HRB := hide hrr.2.2
          clear hrr
          go_roundw
          case rel =>
            refine ⟨j + 1, r, by omega, by go_num, rfl, hr0, by omega, fun k hk hkj => ?_, HB1.out⟩
            by_cases hkk : k = j
            · subst hkk; rw [HT.out]; exact HRB.out
            · exact HS.out k hk (by omega)
          case measure => simp [intOf]; omega
      · have HB := hide hb
        clear hb
        go_wp2
        go_ret
        exact ⟨L, rfl, .inr ⟨hL0, hL1, by omega, fun k hk => HS.out k hk (by omega)⟩, HB.out⟩
end Go.Proofs.Ytgjbenbodegnjaa
