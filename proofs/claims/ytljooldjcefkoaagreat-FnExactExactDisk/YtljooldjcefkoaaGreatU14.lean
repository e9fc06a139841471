/- Texts of the proof, bundled: Cl, Cw, Ls, Ld. -/
import Derived.Deep.DeepCutAuto
import Derived.Deep.CutRange
import Derived.BigRegion
import Derived.RegionTactic
import Derived.Deep.QuietTactic
import Derived.Deep.RegionWith
import Derived.BigQuiet
import Derived.Test.YtljooldjcefkoaaGreatU13
/- The closures of impl's counts by their contracts. -/
namespace Go.Proofs.YtljooldjcefkoaaGreat
open Go.RowKit Kit
set_option maxRecDepth 100000 in
set_option maxHeartbeats 800000 in
theorem c61_any (nm : ByteArray) (io : Int) (a1 a2 a3 a4 : Option Addr) (c1 c2 c3 c4 : Nat) (xs ys : List Bool) (is : List Ino) (bs : List Blk) (dk : Nat) (w : World) (h : DR w (.slice a1 xs.length c1) (.slice a2 ys.length c2) (.slice a3 is.length c3) (.slice a4 bs.length c4) xs ys is bs) (hR : RD is bs) (hd : AtC w dk 35 #[.slice a1 xs.length c1, .slice a2 ys.length c2, .slice a3 is.length c3, .slice a4 bs.length c4]) :
    Calls Tryz.prog 61 #[.agg #[.string nm, .int .i64 io], .pointer (some ⟨dk, 0, none⟩)] w fun e w' => e = .returned (.bool (decide (kindAt is io = 0))) ∧ Below w.heap.size w w' := by
  have CK := hide (kindI_any io (.slice a1 xs.length c1) (.slice a2 ys.length c2) (.slice a3 is.length c3) (.slice a4 bs.length c4) xs ys is bs (w.alloc (.cells #[.string nm, .int .i64 io] 77)) (h.alloc _) hR)
  have hd1 := hd.alloc (.cells #[.string nm, .int .i64 io] 77)
  have HB0 : Hid (Below w.heap.size w (w.alloc (.cells #[.string nm, .int .i64 io] 77))) := (Below.refl _ w).alloc (Nat.le_refl _) _
  have z0 : (w.alloc (.cells #[.string nm, .int .i64 io] 77)).cell? ⟨dk, 0, none⟩ = some (.slice a1 xs.length c1) := hd1.cell 0
  have z1 : (w.alloc (.cells #[.string nm, .int .i64 io] 77)).cell? ⟨dk, 1, none⟩ = some (.slice a2 ys.length c2) := hd1.cell 1
  have z2 : (w.alloc (.cells #[.string nm, .int .i64 io] 77)).cell? ⟨dk, 2, none⟩ = some (.slice a3 is.length c3) := hd1.cell 2
  have z3 : (w.alloc (.cells #[.string nm, .int .i64 io] 77)).cell? ⟨dk, 3, none⟩ = some (.slice a4 bs.length c4) := hd1.cell 3
  have hdw : ¬ dk = w.heap.size := by have := hd.lt; omega
  obtain ⟨kd, hkd⟩ : ∃ k, kindAt is io = k := ⟨_, rfl⟩
  rw [hkd] at CK ⊢
  have hkb : (kd == 0) = decide (kd = 0) := by by_cases e : kd = 0 <;> simp [e]
  rw [← hkb]
  clear h hR hd hd1 hkd hkb
  go_enter Tryz.func61, Tryz.ntmps61
  go_wp2_with fail
  refine CK.out.mono ?_
  rintro e w1 ⟨rfl, B1⟩
  have HB1 := hide (HB0.out.trans (B1.mono HB0.out.size))
  clear B1 CK z0 z1 z2 z3
  go_wp2
  go_ret
  exact ⟨rfl, HB1.out⟩
set_option maxRecDepth 100000 in
set_option maxHeartbeats 800000 in
theorem c64_any (i : Int) (q : Nat) (hb : Nat) (h : List Bool) (w : World) (hh : AtC w hb 89 (hA h)) (hn : h.length = 16) (hq : q < 16) :
    Calls Tryz.prog 64 #[.agg #[.int .i64 i, .int .i64 ((q : Int) + 1)], .pointer (some ⟨hb, 0, none⟩)] w fun e w' => e = .returned (.bool (h.getD q false)) ∧ AtC w' hb 89 (hA (h.set q true)) ∧ Chg (fun k => k = hb) w w' := by
  have q0 : (0 : Int) ≤ (q : Int) := by omega
  have q1 : (q : Int) < 16 := by omega
  have hwq : IntKind.i64.wrap (q : Int) = (q : Int) := wrap_small _ (by omega) (by omega)
  have hbw : ¬ hb = w.heap.size := by have := hh.lt; omega
  have hbw2 : ¬ w.heap.size = hb := fun e => hbw e.symm
  have h1 := hh.alloc (.cells #[.int .i64 i, .int .i64 ((q : Int) + 1)] 93)
  have k0 := (h1.cell q).trans (hA_get h q (by omega))
  have f0 := h1.frozen q
  have HF : Hid (AtC ((w.alloc (.cells #[.int .i64 i, .int .i64 ((q : Int) + 1)] 93)).setCell ⟨hb, q, none⟩ (.bool true)) hb 89 (hA (h.set q true)) ∧ Chg (fun k => k = hb) w ((w.alloc (.cells #[.int .i64 i, .int .i64 ((q : Int) + 1)] 93)).setCell ⟨hb, q, none⟩ (.bool true))) := ⟨by rw [← hA_set]; exact h1.set q _, (Chg.of_below (S := fun k => k = hb) ((Below.refl _ w).alloc (Nat.le_refl _) _)).setCell rfl _⟩
  obtain ⟨b, hb'⟩ : ∃ b, h.getD q false = b := ⟨_, rfl⟩
  rw [hb'] at k0 ⊢
  clear hh h1 hb' hn hq
  go_enter Tryz.func64, Tryz.ntmps64
  go_wp2
  go_ret
  exact ⟨rfl, HF.out⟩
set_option maxRecDepth 100000 in
set_option maxHeartbeats 800000 in
theorem told_any (v : Value) (zs : List Bool) (q : Nat) (w : World) (h : RFl w v zs) (hz : zs.length ≤ 16) (hq : q < zs.length) :
    Calls Tryz.prog 68 #[v, .int .i64 ((q : Int) + 1)] w fun e w' => e = .returned (.bool (!(zs.getD q false))) ∧ w' = w := by
  obtain ⟨a, c, rfl, hc⟩ := h
  obtain ⟨g, o, rfl, -, k0⟩ := hc q hq
  have hg : zs.getD q false = zs[q] := by simp [hq]
  rw [hg]
  obtain ⟨b, hb⟩ : ∃ b, zs[q] = b := ⟨_, rfl⟩
  rw [hb] at k0 ⊢
  have q0 : (0 : Int) ≤ (q : Int) := by omega
  have q1 : (q : Int) < (zs.length : Int) := by omega
  have q2 : (q : Int) + 1 ≤ (zs.length : Int) := by omega
  have hwq : IntKind.i64.wrap (q : Int) = (q : Int) := wrap_small _ (by omega) (by omega)
  clear hc hg hb
  go_enter Tryz.func68, Tryz.ntmps68
  go_wp2
  go_ret
  exact ⟨rfl, rfl⟩
set_option maxRecDepth 100000 in
set_option maxHeartbeats 800000 in
theorem c67_any (i : Int) (q : Nat) (a1 a2 a3 a4 : Option Addr) (c1 c2 c3 c4 : Nat) (xs ys : List Bool) (is : List Ino) (bs : List Blk) (dk : Nat) (w : World) (h : DR w (.slice a1 xs.length c1) (.slice a2 ys.length c2) (.slice a3 is.length c3) (.slice a4 bs.length c4) xs ys is bs) (hX : RX xs ys is bs) (hd : AtC w dk 35 #[.slice a1 xs.length c1, .slice a2 ys.length c2, .slice a3 is.length c3, .slice a4 bs.length c4]) (hq : q < 16) :
    Calls Tryz.prog 67 #[.agg #[.int .i64 i, .int .i64 ((q : Int) + 1)], .pointer (some ⟨dk, 0, none⟩)] w fun e w' => e = .returned (.bool (!(xs.getD q false))) ∧ Below w.heap.size w w' := by
  have CT := hide (told_any _ xs q (w.alloc (.cells #[.int .i64 i, .int .i64 ((q : Int) + 1)] 93)) (h.alloc _).a (by rw [hX.bx]; exact Nat.le_refl _) (by rw [hX.bx]; exact hq))
  have hd1 := hd.alloc (.cells #[.int .i64 i, .int .i64 ((q : Int) + 1)] 93)
  have HB0 : Hid (Below w.heap.size w (w.alloc (.cells #[.int .i64 i, .int .i64 ((q : Int) + 1)] 93))) := (Below.refl _ w).alloc (Nat.le_refl _) _
  have z0 : (w.alloc (.cells #[.int .i64 i, .int .i64 ((q : Int) + 1)] 93)).cell? ⟨dk, 0, none⟩ = some (.slice a1 xs.length c1) := hd1.cell 0
  have z1 : (w.alloc (.cells #[.int .i64 i, .int .i64 ((q : Int) + 1)] 93)).cell? ⟨dk, 1, none⟩ = some (.slice a2 ys.length c2) := hd1.cell 1
  have z2 : (w.alloc (.cells #[.int .i64 i, .int .i64 ((q : Int) + 1)] 93)).cell? ⟨dk, 2, none⟩ = some (.slice a3 is.length c3) := hd1.cell 2
  have z3 : (w.alloc (.cells #[.int .i64 i, .int .i64 ((q : Int) + 1)] 93)).cell? ⟨dk, 3, none⟩ = some (.slice a4 bs.length c4) := hd1.cell 3
  have hdw : ¬ dk = w.heap.size := by have := hd.lt; omega
  clear h hX hd hd1
  go_enter Tryz.func67, Tryz.ntmps67
  go_wp2_with fail
  refine CT.out.mono ?_
  rintro e w1 ⟨rfl, rfl⟩
  go_wp2
  go_ret
  exact ⟨rfl, HB0.out⟩
set_option maxRecDepth 100000 in
set_option maxHeartbeats 800000 in
theorem c70_any (q : Nat) (a1 a2 a3 a4 : Option Addr) (c1 c2 c3 c4 : Nat) (xs ys : List Bool) (is : List Ino) (bs : List Blk) (dk : Nat) (w : World) (h : DR w (.slice a1 xs.length c1) (.slice a2 ys.length c2) (.slice a3 is.length c3) (.slice a4 bs.length c4) xs ys is bs) (hX : RX xs ys is bs) (hd : AtC w dk 35 #[.slice a1 xs.length c1, .slice a2 ys.length c2, .slice a3 is.length c3, .slice a4 bs.length c4]) (hq : q < 8) :
    Calls Tryz.prog 70 #[.int .i64 ((q : Int) + 1), .pointer (some ⟨dk, 0, none⟩)] w fun e w' => e = .returned (.bool (!(ys.getD q false))) ∧ w' = w := by
  have CT := hide (told_any _ ys q w h.b (by rw [hX.y8]; decide) (by rw [hX.y8]; exact hq))
  have z0 : w.cell? ⟨dk, 0, none⟩ = some (.slice a1 xs.length c1) := hd.cell 0
  have z1 : w.cell? ⟨dk, 1, none⟩ = some (.slice a2 ys.length c2) := hd.cell 1
  have z2 : w.cell? ⟨dk, 2, none⟩ = some (.slice a3 is.length c3) := hd.cell 2
  have z3 : w.cell? ⟨dk, 3, none⟩ = some (.slice a4 bs.length c4) := hd.cell 3
  clear h hX hd
  go_enter Tryz.func70, Tryz.ntmps70
  go_wp2_with fail
  refine CT.out.mono ?_
  rintro e w1 ⟨rfl, rfl⟩
  go_wp2
  go_ret
  exact ⟨rfl, rfl⟩
/-- The links that an inode tells. -/
def lnkAt (is : List Ino) (q : Nat) : Int := (is.getD q (0, 0, [])).2.1
set_option maxRecDepth 100000 in
set_option maxHeartbeats 1600000 in
theorem c71_any (q : Nat) (a1 a2 a3 a4 : Option Addr) (c1 c2 c3 c4 : Nat) (xs ys : List Bool) (is : List Ino) (bs : List Blk) (dk : Nat) (w : World) (h : DR w (.slice a1 xs.length c1) (.slice a2 ys.length c2) (.slice a3 is.length c3) (.slice a4 bs.length c4) xs ys is bs) (hX : RX xs ys is bs) (hd : AtC w dk 35 #[.slice a1 xs.length c1, .slice a2 ys.length c2, .slice a3 is.length c3, .slice a4 bs.length c4]) (hq : q < 8) :
    Calls Tryz.prog 71 #[.int .i64 ((q : Int) + 1), .pointer (some ⟨dk, 0, none⟩)] w fun e w' => e = .returned (.bool (decide (¬ q = 0 ∧ lnkAt is q < linksN is bs ((q : Int) + 1)))) ∧ Below w.heap.size w w' := by
  by_cases hq0 : q = 0
  · subst hq0
    have z0 : w.drew.cell? ⟨dk, 0, none⟩ = some (.slice a1 xs.length c1) := hd.drew.cell 0
    have z1 : w.drew.cell? ⟨dk, 1, none⟩ = some (.slice a2 ys.length c2) := hd.drew.cell 1
    have z2 : w.drew.cell? ⟨dk, 2, none⟩ = some (.slice a3 is.length c3) := hd.drew.cell 2
    have z3 : w.drew.cell? ⟨dk, 3, none⟩ = some (.slice a4 bs.length c4) := hd.drew.cell 3
    clear h hX hd hq
    go_enter Tryz.func71, Tryz.ntmps71
    go_upto_region 1 with fail
    go_quiet (fail)
    go_wp2
    go_ret
    exact ⟨rfl, below_drewN (Below.refl _ _) _⟩
  have hj : q < is.length := by rw [hX.r.hi]; exact hq
  obtain ⟨g2, o2, sa, sc, rfl, hg2, -, y1, -, -⟩ := DR.ino h q hj
  have el : lnkAt is q = is[q].2.1 := by unfold lnkAt; simp [hj]
  rw [← el] at y1
  have hqb : ((q : Int) + 1 != 1) = true := by simp; omega
  have q0 : (0 : Int) ≤ (q : Int) := by omega
  have q1 : (q : Int) < (is.length : Int) := by omega
  have hwq : IntKind.i64.wrap (q : Int) = (q : Int) := wrap_small _ (by omega) (by omega)
  have CL := hide (implLinks_any ((q : Int) + 1) (.slice a1 xs.length c1) (.slice a2 ys.length c2) (.slice (some ⟨g2, o2, none⟩) is.length c3) (.slice a4 bs.length c4) xs ys is bs w.drew h.drew hX.r)
  have y1' : w.drew.cell? ⟨g2, o2 + q * 3 + 1, none⟩ = some (.int .i64 (lnkAt is q)) := y1
  have z0 : w.drew.cell? ⟨dk, 0, none⟩ = some (.slice a1 xs.length c1) := hd.drew.cell 0
  have z1 : w.drew.cell? ⟨dk, 1, none⟩ = some (.slice a2 ys.length c2) := hd.drew.cell 1
  have z2 : w.drew.cell? ⟨dk, 2, none⟩ = some (.slice (some ⟨g2, o2, none⟩) is.length c3) := hd.drew.cell 2
  have z3 : w.drew.cell? ⟨dk, 3, none⟩ = some (.slice a4 bs.length c4) := hd.drew.cell 3
  have HD := hide hd
  have HW : Hid (∀ w1, Below w.drew.heap.size w.drew w1 → w1.cell? ⟨g2, o2 + q * 3 + 1, none⟩ = some (.int .i64 (lnkAt is q)) ∧ AtC w1 dk 35 #[.slice a1 xs.length c1, .slice a2 ys.length c2, .slice (some ⟨g2, o2, none⟩) is.length c3, .slice a4 bs.length c4]) := fun w1 b => ⟨(b.cell (p := ⟨g2, o2 + q * 3 + 1, none⟩) hg2).trans y1, hd.drew.over b⟩
  obtain ⟨lk, hlk⟩ : ∃ l, lnkAt is q = l := ⟨_, rfl⟩
  obtain ⟨ln, hln⟩ : ∃ l, linksN is bs ((q : Int) + 1) = l := ⟨_, rfl⟩
  rw [hlk] at y1' HW ⊢
  rw [hln] at CL ⊢
  have hres : decide (¬ q = 0 ∧ lk < (ln : Int)) = decide (lk < (ln : Int)) := by simp [hq0]
  rw [hres]
  clear h hX hd hq y1 el hlk hln hres hq0
  go_enter Tryz.func71, Tryz.ntmps71
  go_upto_region 1 with fail
  go_region_with (go_at_call 72; refine CL.out.mono ?_; rintro e w2 ⟨rfl, B2⟩; have x1 := (HW.out _ B2).1; have x2 : w2.cell? ⟨dk, 2, none⟩ = some (.slice (some ⟨g2, o2, none⟩) is.length c3) := (HW.out _ B2).2.cell 2)
  all_goals (try go_wp2)
  all_goals go_ret
  all_goals exact ⟨rfl, of_drew B2⟩
end Go.Proofs.YtljooldjcefkoaaGreat
/- impl.wrongBlock and the closure of WrongKind by their contracts. -/
namespace Go.Proofs.YtljooldjcefkoaaGreat
open Go.RowKit Kit
set_option maxRecDepth 100000 in
set_option maxHeartbeats 1600000 in
theorem c74_any (io : Int) (q : Nat) (a1 a2 a3 a4 : Option Addr) (c1 c2 c3 c4 : Nat) (xs ys : List Bool) (is : List Ino) (bs : List Blk) (w : World) (h : DR w (.slice a1 xs.length c1) (.slice a2 ys.length c2) (.slice a3 is.length c3) (.slice a4 bs.length c4) xs ys is bs) (hX : RX xs ys is bs) (hq : q < 16) :
    Calls Tryz.prog 74 #[.agg #[.slice a1 xs.length c1, .slice a2 ys.length c2, .slice a3 is.length c3, .slice a4 bs.length c4], .agg #[.int .i64 io, .int .i64 ((q : Int) + 1)]] w fun e w' => e = .returned (.bool ((blkAt bs ((q : Int) + 1)).1 != (kindAt is io == 2))) ∧ Below w.heap.size w w' := by
  have hj : q < bs.length := by rw [hX.r.hb]; exact hq
  obtain ⟨g4, o4, rfl, hg4, y0⟩ := DR.blk h q hj
  have q0 : (0 : Int) ≤ (q : Int) := by omega
  have q1 : (q : Int) < (bs.length : Int) := by omega
  have hwq : IntKind.i64.wrap (q : Int) = (q : Int) := wrap_small _ (by omega) (by omega)
  obtain ⟨W0, hW0⟩ : ∃ W, ((w.alloc (.cells #[.slice a1 xs.length c1, .slice a2 ys.length c2, .slice a3 is.length c3, .slice (some ⟨g4, o4, none⟩) bs.length c4] 35)).alloc (.cells #[.int .i64 io, .int .i64 ((q : Int) + 1)] 93)) = W := ⟨_, rfl⟩
  have HA : Hid (AtC W0 w.heap.size 35 #[.slice a1 xs.length c1, .slice a2 ys.length c2, .slice a3 is.length c3, .slice (some ⟨g4, o4, none⟩) bs.length c4] ∧ AtC W0 (w.heap.size + 1) 93 #[.int .i64 io, .int .i64 ((q : Int) + 1)] ∧ Below w.heap.size w W0) := by
    rw [← hW0]
    have a := AtC.new (w.alloc (.cells #[.slice a1 xs.length c1, .slice a2 ys.length c2, .slice a3 is.length c3, .slice (some ⟨g4, o4, none⟩) bs.length c4] 35)) 93 #[.int .i64 io, .int .i64 ((q : Int) + 1)]
    rw [World.size_alloc] at a
    exact ⟨(AtC.new w 35 _).alloc _, a, ((Below.refl _ w).alloc (Nat.le_refl _) _).alloc (by simp) _⟩
  have CK := hide (fun (W : World) (hb : Below w.heap.size w W) => kindI_any io (.slice a1 xs.length c1) (.slice a2 ys.length c2) (.slice a3 is.length c3) (.slice (some ⟨g4, o4, none⟩) bs.length c4) xs ys is bs W (h.below hb (Nat.le_refl _)) hX.r)
  obtain ⟨fl, hfl⟩ : ∃ b, (blkAt bs ((q : Int) + 1)).1 = b := ⟨_, rfl⟩
  rw [hfl] at y0 ⊢
  obtain ⟨kd, hkd⟩ : ∃ k, kindAt is io = k := ⟨_, rfl⟩
  rw [hkd] at CK ⊢
  have HW : Hid (∀ W, Below W0.drew.heap.size W0.drew W → AtC W w.heap.size 35 #[.slice a1 xs.length c1, .slice a2 ys.length c2, .slice a3 is.length c3, .slice (some ⟨g4, o4, none⟩) bs.length c4] ∧ AtC W (w.heap.size + 1) 93 #[.int .i64 io, .int .i64 ((q : Int) + 1)] ∧ W.cell? ⟨g4, o4 + q * 3, none⟩ = some (.bool fl) ∧ Below w.heap.size w W) := fun W b => by
    have b2 := HA.out.2.2.drew.trans (b.mono HA.out.2.2.drew.size)
    exact ⟨HA.out.1.drew.over b, HA.out.2.1.drew.over b, (b2.cell (p := ⟨g4, o4 + q * 3, none⟩) hg4).trans y0, b2⟩
  clear h hX hfl hkd y0 hq
  go_enter Tryz.func74, Tryz.ntmps74
  go_upto_region 1 with fail
  clear hW0
  refine wp_region_frm (by kernel_rfl) [0, 1, 2, 3, 4, 5, 6, 7, 8, 9, 10, 11, 12] [13, 14] (fun i => match i with | 0 => .const [] (.pointer (some ⟨w.heap.size, 3, none⟩)) | 1 => .const [0] (.slice (some ⟨g4, o4, none⟩) bs.length c4) | 2 => .const [] (.pointer (some ⟨w.heap.size + 1, 1, none⟩)) | 3 => .const [2] (.int .i64 ((q : Int) + 1)) | 4 => .const [3] (.int .i64 (q : Int)) | 5 => .const [1, 4] (.pointer (some ⟨g4, o4 + q * 3, none⟩)) | 6 => .const [5] (.pointer (some ⟨g4, o4 + q * 3, none⟩)) | 7 => .const [6] (.bool fl) | 8 => .const [] (.agg #[.slice a1 xs.length c1, .slice a2 ys.length c2, .slice a3 is.length c3, .slice (some ⟨g4, o4, none⟩) bs.length c4]) | 9 => .const [] (.pointer (some ⟨w.heap.size + 1, 0, none⟩)) | 10 => .const [9] (.int .i64 io) | 11 => .const [8, 10] (.int .i64 kd) | 12 => .const [11] (.bool (kd == 2)) | _ => .triv) (fun x => ⟨#[Value.agg #[Value.slice a1 xs.length c1, Value.slice a2 ys.length c2, Value.slice a3 is.length c3, Value.slice (some { block := g4, off := o4 }) bs.length c4], Value.agg #[Value.int IntKind.i64 io, Value.int IntKind.i64 (↑q + 1)], Value.pointer (some { block := w.heap.size, off := 0 }), Value.pointer (some { block := w.heap.size + 1, off := 0 }), Value.bool false, x 0, x 1, x 2, x 3, x 4, x 5, x 6, x 7, x 8, x 9, x 10, x 11, x 12, undef], []⟩) (fun i => match i with | 0 => undef | 1 => undef | 2 => undef | 3 => undef | 4 => undef | 5 => undef | 6 => undef | 7 => undef | 8 => undef | 9 => undef | 10 => undef | 11 => undef | 12 => undef | _ => undef) rfl (by kernel_rfl) (by kernel_rfl) (by kernel_rfl) rfl ?_ ?_
  · intro jo hj so x iw W hd hp K hK
    simp only [List.mem_cons, List.not_mem_nil, or_false] at hj
    rcases hj with rfl | rfl | rfl | rfl | rfl | rfl | rfl | rfl | rfl | rfl | rfl | rfl | rfl
    · refine wpOp_step (o := _) rfl fun K' hK' => ?_
      have HK : Hid (∀ v W', Below W.heap.size W W' → ((Mk.const [] (.pointer (some ⟨w.heap.size, 3, none⟩)) : Mk)).P W.heap.size W'.heap.size W' v (upd x 0 v) → K' ⟨#[Value.agg #[Value.slice a1 xs.length c1, Value.slice a2 ys.length c2, Value.slice a3 is.length c3, Value.slice (some { block := g4, off := o4 }) bs.length c4], Value.agg #[Value.int IntKind.i64 io, Value.int IntKind.i64 (↑q + 1)], Value.pointer (some { block := w.heap.size, off := 0 }), Value.pointer (some { block := w.heap.size + 1, off := 0 }), Value.bool false, v, x 1, x 2, x 3, x 4, x 5, x 6, x 7, x 8, x 9, x 10, x 11, x 12, undef], []⟩ W') := fun v W' h1 h2 => hK' _ _ (hK v W' h1 h2)
      clear hK hK' hp hd
      go_simp
      exact HK.out _ _ (Below.refl _ _) rfl
    · refine wpOp_step (o := _) rfl fun K' hK' => ?_
      have HK : Hid (∀ v W', Below W.heap.size W W' → ((Mk.const [0] (.slice (some ⟨g4, o4, none⟩) bs.length c4) : Mk)).P W.heap.size W'.heap.size W' v (upd x 1 v) → K' ⟨#[Value.agg #[Value.slice a1 xs.length c1, Value.slice a2 ys.length c2, Value.slice a3 is.length c3, Value.slice (some { block := g4, off := o4 }) bs.length c4], Value.agg #[Value.int IntKind.i64 io, Value.int IntKind.i64 (↑q + 1)], Value.pointer (some { block := w.heap.size, off := 0 }), Value.pointer (some { block := w.heap.size + 1, off := 0 }), Value.bool false, x 0, v, x 2, x 3, x 4, x 5, x 6, x 7, x 8, x 9, x 10, x 11, x 12, undef], []⟩ W') := fun v W' h1 h2 => hK' _ _ (hK v W' h1 h2)
      have e0 : x 0 = .pointer (some ⟨w.heap.size, 3, none⟩) := hp.post 0 (hd 0 (show 0 ∈ [0] from by decide))
      have bw := HW.out W hp.bel
      have k0 : W.cell? ⟨w.heap.size, 3, none⟩ = some (.slice (some ⟨g4, o4, none⟩) bs.length c4) := bw.1.cell 3
      clear bw
      clear hK hK' hp hd
      simp only [e0] at HK ⊢
      go_simp
      exact HK.out _ _ (Below.refl _ _) rfl
    · refine wpOp_step (o := _) rfl fun K' hK' => ?_
      have HK : Hid (∀ v W', Below W.heap.size W W' → ((Mk.const [] (.pointer (some ⟨w.heap.size + 1, 1, none⟩)) : Mk)).P W.heap.size W'.heap.size W' v (upd x 2 v) → K' ⟨#[Value.agg #[Value.slice a1 xs.length c1, Value.slice a2 ys.length c2, Value.slice a3 is.length c3, Value.slice (some { block := g4, off := o4 }) bs.length c4], Value.agg #[Value.int IntKind.i64 io, Value.int IntKind.i64 (↑q + 1)], Value.pointer (some { block := w.heap.size, off := 0 }), Value.pointer (some { block := w.heap.size + 1, off := 0 }), Value.bool false, x 0, x 1, v, x 3, x 4, x 5, x 6, x 7, x 8, x 9, x 10, x 11, x 12, undef], []⟩ W') := fun v W' h1 h2 => hK' _ _ (hK v W' h1 h2)
      clear hK hK' hp hd
      go_simp
      exact HK.out _ _ (Below.refl _ _) rfl
    · refine wpOp_step (o := _) rfl fun K' hK' => ?_
      have HK : Hid (∀ v W', Below W.heap.size W W' → ((Mk.const [2] (.int .i64 ((q : Int) + 1)) : Mk)).P W.heap.size W'.heap.size W' v (upd x 3 v) → K' ⟨#[Value.agg #[Value.slice a1 xs.length c1, Value.slice a2 ys.length c2, Value.slice a3 is.length c3, Value.slice (some { block := g4, off := o4 }) bs.length c4], Value.agg #[Value.int IntKind.i64 io, Value.int IntKind.i64 (↑q + 1)], Value.pointer (some { block := w.heap.size, off := 0 }), Value.pointer (some { block := w.heap.size + 1, off := 0 }), Value.bool false, x 0, x 1, x 2, v, x 4, x 5, x 6, x 7, x 8, x 9, x 10, x 11, x 12, undef], []⟩ W') := fun v W' h1 h2 => hK' _ _ (hK v W' h1 h2)
      have e2 : x 2 = .pointer (some ⟨w.heap.size + 1, 1, none⟩) := hp.post 2 (hd 2 (show 2 ∈ [2] from by decide))
      have bw := HW.out W hp.bel
      have k0 : W.cell? ⟨w.heap.size + 1, 1, none⟩ = some (.int .i64 ((q : Int) + 1)) := bw.2.1.cell 1
      clear bw
      clear hK hK' hp hd
      simp only [e2] at HK ⊢
      go_simp
      exact HK.out _ _ (Below.refl _ _) rfl
    · refine wpOp_step (o := _) rfl fun K' hK' => ?_
      have HK : Hid (∀ v W', Below W.heap.size W W' → ((Mk.const [3] (.int .i64 (q : Int)) : Mk)).P W.heap.size W'.heap.size W' v (upd x 4 v) → K' ⟨#[Value.agg #[Value.slice a1 xs.length c1, Value.slice a2 ys.length c2, Value.slice a3 is.length c3, Value.slice (some { block := g4, off := o4 }) bs.length c4], Value.agg #[Value.int IntKind.i64 io, Value.int IntKind.i64 (↑q + 1)], Value.pointer (some { block := w.heap.size, off := 0 }), Value.pointer (some { block := w.heap.size + 1, off := 0 }), Value.bool false, x 0, x 1, x 2, x 3, v, x 5, x 6, x 7, x 8, x 9, x 10, x 11, x 12, undef], []⟩ W') := fun v W' h1 h2 => hK' _ _ (hK v W' h1 h2)
      have e3 : x 3 = .int .i64 ((q : Int) + 1) := hp.post 3 (hd 3 (show 3 ∈ [3] from by decide))
      clear hK hK' hp hd
      simp only [e3] at HK ⊢
      go_simp
      exact HK.out _ _ (Below.refl _ _) rfl
    · refine wpOp_step (o := _) rfl fun K' hK' => ?_
      have HK : Hid (∀ v W', Below W.heap.size W W' → ((Mk.const [1, 4] (.pointer (some ⟨g4, o4 + q * 3, none⟩)) : Mk)).P W.heap.size W'.heap.size W' v (upd x 5 v) → K' ⟨#[Value.agg #[Value.slice a1 xs.length c1, Value.slice a2 ys.length c2, Value.slice a3 is.length c3, Value.slice (some { block := g4, off := o4 }) bs.length c4], Value.agg #[Value.int IntKind.i64 io, Value.int IntKind.i64 (↑q + 1)], Value.pointer (some { block := w.heap.size, off := 0 }), Value.pointer (some { block := w.heap.size + 1, off := 0 }), Value.bool false, x 0, x 1, x 2, x 3, x 4, v, x 6, x 7, x 8, x 9, x 10, x 11, x 12, undef], []⟩ W') := fun v W' h1 h2 => hK' _ _ (hK v W' h1 h2)
      have e1 : x 1 = .slice (some ⟨g4, o4, none⟩) bs.length c4 := hp.post 1 (hd 1 (show 1 ∈ [1, 4] from by decide))
      have e4 : x 4 = .int .i64 (q : Int) := hp.post 4 (hd 4 (show 4 ∈ [1, 4] from by decide))
      clear hK hK' hp hd
      simp only [e1, e4] at HK ⊢
      go_simp
      exact HK.out _ _ (Below.refl _ _) rfl
    · refine wpOp_step (o := _) rfl fun K' hK' => ?_
      have HK : Hid (∀ v W', Below W.heap.size W W' → ((Mk.const [5] (.pointer (some ⟨g4, o4 + q * 3, none⟩)) : Mk)).P W.heap.size W'.heap.size W' v (upd x 6 v) → K' ⟨#[Value.agg #[Value.slice a1 xs.length c1, Value.slice a2 ys.length c2, Value.slice a3 is.length c3, Value.slice (some { block := g4, off := o4 }) bs.length c4], Value.agg #[Value.int IntKind.i64 io, Value.int IntKind.i64 (↑q + 1)], Value.pointer (some { block := w.heap.size, off := 0 }), Value.pointer (some { block := w.heap.size + 1, off := 0 }), Value.bool false, x 0, x 1, x 2, x 3, x 4, x 5, v, x 7, x 8, x 9, x 10, x 11, x 12, undef], []⟩ W') := fun v W' h1 h2 => hK' _ _ (hK v W' h1 h2)
      have e5 : x 5 = .pointer (some ⟨g4, o4 + q * 3, none⟩) := hp.post 5 (hd 5 (show 5 ∈ [5] from by decide))
      clear hK hK' hp hd
      simp only [e5] at HK ⊢
      go_simp
      exact HK.out _ _ (Below.refl _ _) rfl
    · refine wpOp_step (o := _) rfl fun K' hK' => ?_
      have HK : Hid (∀ v W', Below W.heap.size W W' → ((Mk.const [6] (.bool fl) : Mk)).P W.heap.size W'.heap.size W' v (upd x 7 v) → K' ⟨#[Value.agg #[Value.slice a1 xs.length c1, Value.slice a2 ys.length c2, Value.slice a3 is.length c3, Value.slice (some { block := g4, off := o4 }) bs.length c4], Value.agg #[Value.int IntKind.i64 io, Value.int IntKind.i64 (↑q + 1)], Value.pointer (some { block := w.heap.size, off := 0 }), Value.pointer (some { block := w.heap.size + 1, off := 0 }), Value.bool false, x 0, x 1, x 2, x 3, x 4, x 5, x 6, v, x 8, x 9, x 10, x 11, x 12, undef], []⟩ W') := fun v W' h1 h2 => hK' _ _ (hK v W' h1 h2)
      have e6 : x 6 = .pointer (some ⟨g4, o4 + q * 3, none⟩) := hp.post 6 (hd 6 (show 6 ∈ [6] from by decide))
      have bw := HW.out W hp.bel
      have k0 := bw.2.2.1
      clear bw
      clear hK hK' hp hd
      simp only [e6] at HK ⊢
      go_simp
      exact HK.out _ _ (Below.refl _ _) rfl
    · refine wpOp_step (o := _) rfl fun K' hK' => ?_
      have HK : Hid (∀ v W', Below W.heap.size W W' → ((Mk.const [] (.agg #[.slice a1 xs.length c1, .slice a2 ys.length c2, .slice a3 is.length c3, .slice (some ⟨g4, o4, none⟩) bs.length c4]) : Mk)).P W.heap.size W'.heap.size W' v (upd x 8 v) → K' ⟨#[Value.agg #[Value.slice a1 xs.length c1, Value.slice a2 ys.length c2, Value.slice a3 is.length c3, Value.slice (some { block := g4, off := o4 }) bs.length c4], Value.agg #[Value.int IntKind.i64 io, Value.int IntKind.i64 (↑q + 1)], Value.pointer (some { block := w.heap.size, off := 0 }), Value.pointer (some { block := w.heap.size + 1, off := 0 }), Value.bool false, x 0, x 1, x 2, x 3, x 4, x 5, x 6, x 7, v, x 9, x 10, x 11, x 12, undef], []⟩ W') := fun v W' h1 h2 => hK' _ _ (hK v W' h1 h2)
      have bw := HW.out W hp.bel
      have k0 : W.cell? ⟨w.heap.size, 0, none⟩ = some (.slice a1 xs.length c1) := bw.1.cell 0
      have k1 : W.cell? ⟨w.heap.size, 1, none⟩ = some (.slice a2 ys.length c2) := bw.1.cell 1
      have k2 : W.cell? ⟨w.heap.size, 2, none⟩ = some (.slice a3 is.length c3) := bw.1.cell 2
      have k3 : W.cell? ⟨w.heap.size, 3, none⟩ = some (.slice (some ⟨g4, o4, none⟩) bs.length c4) := bw.1.cell 3
      clear bw
      clear hK hK' hp hd
      go_simp
      exact HK.out _ _ (Below.refl _ _) rfl
    · refine wpOp_step (o := _) rfl fun K' hK' => ?_
      have HK : Hid (∀ v W', Below W.heap.size W W' → ((Mk.const [] (.pointer (some ⟨w.heap.size + 1, 0, none⟩)) : Mk)).P W.heap.size W'.heap.size W' v (upd x 9 v) → K' ⟨#[Value.agg #[Value.slice a1 xs.length c1, Value.slice a2 ys.length c2, Value.slice a3 is.length c3, Value.slice (some { block := g4, off := o4 }) bs.length c4], Value.agg #[Value.int IntKind.i64 io, Value.int IntKind.i64 (↑q + 1)], Value.pointer (some { block := w.heap.size, off := 0 }), Value.pointer (some { block := w.heap.size + 1, off := 0 }), Value.bool false, x 0, x 1, x 2, x 3, x 4, x 5, x 6, x 7, x 8, v, x 10, x 11, x 12, undef], []⟩ W') := fun v W' h1 h2 => hK' _ _ (hK v W' h1 h2)
      clear hK hK' hp hd
      go_simp
      exact HK.out _ _ (Below.refl _ _) rfl
    · refine wpOp_step (o := _) rfl fun K' hK' => ?_
      have HK : Hid (∀ v W', Below W.heap.size W W' → ((Mk.const [9] (.int .i64 io) : Mk)).P W.heap.size W'.heap.size W' v (upd x 10 v) → K' ⟨#[Value.agg #[Value.slice a1 xs.length c1, Value.slice a2 ys.length c2, Value.slice a3 is.length c3, Value.slice (some { block := g4, off := o4 }) bs.length c4], Value.agg #[Value.int IntKind.i64 io, Value.int IntKind.i64 (↑q + 1)], Value.pointer (some { block := w.heap.size, off := 0 }), Value.pointer (some { block := w.heap.size + 1, off := 0 }), Value.bool false, x 0, x 1, x 2, x 3, x 4, x 5, x 6, x 7, x 8, x 9, v, x 11, x 12, undef], []⟩ W') := fun v W' h1 h2 => hK' _ _ (hK v W' h1 h2)
      have e9 : x 9 = .pointer (some ⟨w.heap.size + 1, 0, none⟩) := hp.post 9 (hd 9 (show 9 ∈ [9] from by decide))
      have bw := HW.out W hp.bel
      have k0 : W.cell? ⟨w.heap.size + 1, 0, none⟩ = some (.int .i64 io) := bw.2.1.cell 0
      clear bw
      clear hK hK' hp hd
      simp only [e9] at HK ⊢
      go_simp
      exact HK.out _ _ (Below.refl _ _) rfl
    · refine wpOp_step (o := _) rfl fun K' hK' => ?_
      have HK : Hid (∀ v W', Below W.heap.size W W' → ((Mk.const [8, 10] (.int .i64 kd) : Mk)).P W.heap.size W'.heap.size W' v (upd x 11 v) → K' ⟨#[Value.agg #[Value.slice a1 xs.length c1, Value.slice a2 ys.length c2, Value.slice a3 is.length c3, Value.slice (some { block := g4, off := o4 }) bs.length c4], Value.agg #[Value.int IntKind.i64 io, Value.int IntKind.i64 (↑q + 1)], Value.pointer (some { block := w.heap.size, off := 0 }), Value.pointer (some { block := w.heap.size + 1, off := 0 }), Value.bool false, x 0, x 1, x 2, x 3, x 4, x 5, x 6, x 7, x 8, x 9, x 10, v, x 12, undef], []⟩ W') := fun v W' h1 h2 => hK' _ _ (hK v W' h1 h2)
      have e8 : x 8 = .agg #[.slice a1 xs.length c1, .slice a2 ys.length c2, .slice a3 is.length c3, .slice (some ⟨g4, o4, none⟩) bs.length c4] := hp.post 8 (hd 8 (show 8 ∈ [8, 10] from by decide))
      have e10 : x 10 = .int .i64 io := hp.post 10 (hd 10 (show 10 ∈ [8, 10] from by decide))
      have dr := (HW.out W hp.bel).2.2.2
      clear hK hK' hp hd
      simp only [e8, e10] at HK ⊢
      clear e8 e10
      go_simp
      refine (CK.out W dr).mono ?_
      rintro e w6 ⟨rfl, B6⟩
      go_simp
      exact HK.out _ _ B6 rfl
    · refine wpOp_step (o := _) rfl fun K' hK' => ?_
      have HK : Hid (∀ v W', Below W.heap.size W W' → ((Mk.const [11] (.bool (kd == 2)) : Mk)).P W.heap.size W'.heap.size W' v (upd x 12 v) → K' ⟨#[Value.agg #[Value.slice a1 xs.length c1, Value.slice a2 ys.length c2, Value.slice a3 is.length c3, Value.slice (some { block := g4, off := o4 }) bs.length c4], Value.agg #[Value.int IntKind.i64 io, Value.int IntKind.i64 (↑q + 1)], Value.pointer (some { block := w.heap.size, off := 0 }), Value.pointer (some { block := w.heap.size + 1, off := 0 }), Value.bool false, x 0, x 1, x 2, x 3, x 4, x 5, x 6, x 7, x 8, x 9, x 10, x 11, v, undef], []⟩ W') := fun v W' h1 h2 => hK' _ _ (hK v W' h1 h2)
      have e11 : x 11 = .int .i64 kd := hp.post 11 (hd 11 (show 11 ∈ [11] from by decide))
      clear hK hK' hp hd
      simp only [e11] at HK ⊢
      go_simp
      exact HK.out _ _ (Below.refl _ _) rfl
  · intro x iw W hp
    have e7 : x 7 = .bool fl := hp.post 7 (by decide)
    have e12 : x 12 = .bool (kd == 2) := hp.post 12 (by decide)
    have HB := hide (HW.out W hp.bel).2.2.2
    simp only [e7, e12]
    clear hp e7 e12
    go_wp2_with fail
    try rw [List.filterMap_nil]
    try go_wp2
    go_ret
    exact ⟨rfl, HB.out⟩
set_option maxRecDepth 100000 in
set_option maxHeartbeats 800000 in
theorem c73_any (io : Int) (q : Nat) (a1 a2 a3 a4 : Option Addr) (c1 c2 c3 c4 : Nat) (xs ys : List Bool) (is : List Ino) (bs : List Blk) (dk : Nat) (w : World) (h : DR w (.slice a1 xs.length c1) (.slice a2 ys.length c2) (.slice a3 is.length c3) (.slice a4 bs.length c4) xs ys is bs) (hX : RX xs ys is bs) (hd : AtC w dk 35 #[.slice a1 xs.length c1, .slice a2 ys.length c2, .slice a3 is.length c3, .slice a4 bs.length c4]) (hq : q < 16) :
    Calls Tryz.prog 73 #[.agg #[.int .i64 io, .int .i64 ((q : Int) + 1)], .pointer (some ⟨dk, 0, none⟩)] w fun e w' => e = .returned (.bool ((blkAt bs ((q : Int) + 1)).1 != (kindAt is io == 2))) ∧ Below w.heap.size w w' := by
  have CT := hide (c74_any io q a1 a2 a3 a4 c1 c2 c3 c4 xs ys is bs (w.alloc (.cells #[.int .i64 io, .int .i64 ((q : Int) + 1)] 93)) (h.alloc _) hX hq)
  have hd1 := hd.alloc (.cells #[.int .i64 io, .int .i64 ((q : Int) + 1)] 93)
  have HB0 : Hid (Below w.heap.size w (w.alloc (.cells #[.int .i64 io, .int .i64 ((q : Int) + 1)] 93))) := (Below.refl _ w).alloc (Nat.le_refl _) _
  have z0 : (w.alloc (.cells #[.int .i64 io, .int .i64 ((q : Int) + 1)] 93)).cell? ⟨dk, 0, none⟩ = some (.slice a1 xs.length c1) := hd1.cell 0
  have z1 : (w.alloc (.cells #[.int .i64 io, .int .i64 ((q : Int) + 1)] 93)).cell? ⟨dk, 1, none⟩ = some (.slice a2 ys.length c2) := hd1.cell 1
  have z2 : (w.alloc (.cells #[.int .i64 io, .int .i64 ((q : Int) + 1)] 93)).cell? ⟨dk, 2, none⟩ = some (.slice a3 is.length c3) := hd1.cell 2
  have z3 : (w.alloc (.cells #[.int .i64 io, .int .i64 ((q : Int) + 1)] 93)).cell? ⟨dk, 3, none⟩ = some (.slice a4 bs.length c4) := hd1.cell 3
  have hdw : ¬ dk = w.heap.size := by have := hd.lt; omega
  obtain ⟨r, hr⟩ : ∃ r, ((blkAt bs ((q : Int) + 1)).1 != (kindAt is io == 2)) = r := ⟨_, rfl⟩
  rw [hr] at CT ⊢
  clear h hX hd hd1 hr
  go_enter Tryz.func73, Tryz.ntmps73
  go_wp2_with fail
  refine CT.out.mono ?_
  rintro e w1 ⟨rfl, B1⟩
  have HB1 := hide (HB0.out.trans (B1.mono HB0.out.size))
  clear B1
  go_wp2
  go_ret
  exact ⟨rfl, HB1.out⟩
end Go.Proofs.YtljooldjcefkoaaGreat
/- Of the specification: LinksOf by its contract. -/
namespace Go.Proofs.YtljooldjcefkoaaGreat
open Go.RowKit Kit
set_option maxRecDepth 100000 in
set_option maxHeartbeats 3200000 in
theorem specLinks_any (x : Int) (dx dy iv bv : Value) (xs ys : List Bool) (is : List Ino) (bs : List Blk) (w : World) (h : DR w dx dy iv bv xs ys is bs) (hX : RX xs ys is bs) :
    Calls Tryz.prog 36 #[.agg #[dx, dy, iv, bv], .int .i64 x] w fun e w' => e = .returned (.int .i64 (linksN is bs x)) ∧ Below w.heap.size w w' := by
  have hR := hX.r
  obtain ⟨a1, c1, a2, c2, a3, c3, a4, c4, rfl, rfl, rfl, rfl⟩ := h.form
  have HB0 : Hid (Below w.heap.size w (w.alloc (.cells #[.slice a1 xs.length c1, .slice a2 ys.length c2, .slice a3 is.length c3, .slice a4 bs.length c4] 35))) := (Below.refl _ w).alloc (Nat.le_refl _) _
  have HA0 := hide (AtC.new w 35 #[.slice a1 xs.length c1, .slice a2 ys.length c2, .slice a3 is.length c3, .slice a4 bs.length c4])
  have CR := hide (specReach_any (.slice a1 xs.length c1) (.slice a2 ys.length c2) (.slice a3 is.length c3) (.slice a4 bs.length c4) xs ys is bs (w.alloc (.cells #[.slice a1 xs.length c1, .slice a2 ys.length c2, .slice a3 is.length c3, .slice a4 bs.length c4] 35)) (h.alloc _) hR)
  have CN := hide (fun (x : Int) (W : World) (hb : Below w.heap.size w W) => slots_any x (.slice a1 xs.length c1) (.slice a2 ys.length c2) (.slice a3 is.length c3) (.slice a4 bs.length c4) xs ys is bs W (h.below hb (Nat.le_refl _)) hR)
  have HL8 : Hid (∀ x, (named is bs x).length ≤ 8) := hR.named8
  have HLT : Hid (∀ q, ((((reachL is bs).take q).flatMap (named is bs)).countP (fun s => decide (s.2 = x))) ≤ 64) := fun q => by
    have h1 := flatN_len hR ((reachL is bs).take q)
    have h2 := reachL_len is bs
    rw [List.length_take] at h1
    exact Nat.le_trans List.countP_le_length (by omega)
  have HR8 := hide (reachL_len is bs)
  have HFT := hide (fun q hq => flat_take (reachL is bs) (named is bs) q hq)
  obtain ⟨RL, hRL⟩ : ∃ l, reachL is bs = l := ⟨_, rfl⟩
  have HRES : Hid (slotsR is bs = RL.flatMap (named is bs)) := by show slotsR is bs = _; unfold slotsR; rw [hRL]
  have HFIN : Hid ((linksN is bs x) = (RL.flatMap (named is bs)).countP (fun s => decide (s.2 = x))) := by
    show _ = _
    rw [← HRES.out]
    rfl
  rw [HFIN.out]
  rw [hRL] at CR HLT HR8 HFT
  clear h hR hX hRL HRES HFIN
  go_enter Tryz.func36, Tryz.ntmps36
  go_wp2_with fail
  refine CR.out.mono ?_
  rintro e w1 ⟨rv, rfl, R1, B1⟩
  have HB1 := hide (HB0.out.trans (B1.mono HB0.out.size))
  have HA1 := hide (HA0.out.over B1)
  obtain ⟨ra, rc, rfl, hcr⟩ := R1.rints
  have HCR := hide hcr
  have r8 : RL.length ≤ 8 := HR8.out
  clear R1 B1 CR HB0 HA0 hcr
  go_wp2_with fail
  go_loopw [5, 7] (fun nv kv wr => ∃ (q : Nat), q ≤ RL.length ∧ nv = .int .i64 ((((RL.take q).flatMap (named is bs)).countP (fun s => decide (s.2 = x)) : Nat) : Int) ∧ kv = .int .i64 q ∧ Hid (Below w1.heap.size w1 wr)) (fun _ kv _ => RL.length - (intOf kv).toNat)
  case atStart => exact ⟨0, Nat.zero_le _, by simp, rfl, Below.refl _ _⟩
  case round =>
    obtain ⟨q, hq, rfl, rfl, HQ⟩ := hrel
    obtain ⟨wo, hwo⟩ : ∃ wo, wo = wr := ⟨_, rfl⟩
    subst hwo
    have q0 : (0 : Int) ≤ (q : Int) := by omega
    by_cases hlt : q < RL.length
    rotate_left
    · have q1 : ¬ ((q : Int) < (RL.length : Int)) := by omega
      rw [List.take_of_length_le (by omega)]
      go_wp2
      go_ret
      exact ⟨rfl, HB1.out.trans (HQ.out.mono HB1.out.size)⟩
    have q1 : (q : Int) < (RL.length : Int) := by omega
    obtain ⟨gr, orr, rfl, hgr, kr⟩ := HCR.out q hlt
    have HF1 := hide (HFT.out q hlt)
    have hn64 := HLT.out (q + 1)
    obtain ⟨di, hdi⟩ : ∃ x, RL[q] = x := ⟨_, rfl⟩
    rw [hdi] at kr HF1
    rw [HF1.out, List.countP_append] at hn64
    obtain ⟨c0, hc0⟩ : ∃ c, ((RL.take q).flatMap (named is bs)).countP (fun s => decide (s.2 = x)) = c := ⟨_, rfl⟩
    have HC1 : Hid (((RL.take (q + 1)).flatMap (named is bs)).countP (fun s => decide (s.2 = x)) = c0 + (named is bs di).countP (fun s => decide (s.2 = x))) := by
      show _ = _
      rw [HF1.out, List.countP_append, hc0]
    rw [hc0] at hn64 ⊢
    have HW : Hid (∀ W, Below wo.heap.size wo W → Below w.heap.size w W ∧ AtC W w.heap.size 35 #[.slice a1 xs.length c1, .slice a2 ys.length c2, .slice a3 is.length c3, .slice a4 bs.length c4] ∧ W.cell? ⟨gr, orr + q, none⟩ = some (.int .i64 di) ∧ Below w1.heap.size w1 W) := fun W b => by
      have b1 := HQ.out.trans (b.mono HQ.out.size)
      exact ⟨HB1.out.trans (b1.mono HB1.out.size), HA1.out.over b1, (b1.cell (p := ⟨gr, orr + q, none⟩) hgr).trans kr, b1⟩
    clear hdi kr hc0 HF1
    go_upto_region 6 with fail
    go_cut [8] from 12 to 38 (fun sv wx => ∃ a c, sv = .slice a (named is bs di).length c ∧ RSl wx (.slice a (named is bs di).length c) (named is bs di) ∧ Below wo.heap.size wo wx)
    case first =>
      obtain ⟨-, A0, kr, -⟩ := HW.out wo.drew (Below.refl _ wo).drew
      have z0 : wo.drew.cell? ⟨w.heap.size, 0, none⟩ = some (.slice a1 xs.length c1) := A0.cell 0
      have z1 : wo.drew.cell? ⟨w.heap.size, 1, none⟩ = some (.slice a2 ys.length c2) := A0.cell 1
      have z2 : wo.drew.cell? ⟨w.heap.size, 2, none⟩ = some (.slice a3 is.length c3) := A0.cell 2
      have z3 : wo.drew.cell? ⟨w.heap.size, 3, none⟩ = some (.slice a4 bs.length c4) := A0.cell 3
      have CN1 := hide (CN.out di wo.drew (HW.out wo.drew (Below.refl _ wo).drew).1)
      clear A0
      go_region_with (go_at_call 50; refine CN1.out.mono ?_; rintro e w2 ⟨nv, rfl, S2, B2⟩; obtain ⟨na, nc, rfl, -⟩ := S2.form)
      all_goals (try go_wp2_with fail)
      all_goals (go_meet; exact ⟨_, _, rfl, S2.rsl, of_drew B2⟩)
    case rest =>
      obtain ⟨na, nc, rfl, hS2, hB2⟩ := hcut
      obtain ⟨-, -, -, hB3⟩ := HW.out _ hB2
      have HS2 := hide hS2
      have HB3 := hide hB3
      have HN8 := HL8.out di
      clear hS2 hB2 hB3 HW HQ
      obtain ⟨NS, hNS⟩ : ∃ X, named is bs di = X := ⟨_, rfl⟩
      rw [hNS] at HC1 HS2 HN8 hn64 ⊢
      clear hNS
      obtain ⟨wx, hwx⟩ : ∃ wx, wx = wc := ⟨_, rfl⟩
      subst hwx
      go_wp2_with fail
      go_loopw [5, 9] (fun nv kv wr => ∃ (t : Nat), t ≤ NS.length ∧ nv = .int .i64 (((c0 + (NS.take t).countP (fun s => decide (s.2 = x)) : Nat)) : Int) ∧ kv = .int .i64 t ∧ Hid (Below wx.heap.size wx wr)) (fun _ kv _ => NS.length - (intOf kv).toNat)
      case atStart => exact ⟨0, Nat.zero_le _, by simp, rfl, Below.refl _ _⟩
      case round =>
        obtain ⟨t, ht, rfl, rfl, HT⟩ := hrel
        have t0 : (0 : Int) ≤ (t : Int) := by omega
        by_cases htl : t < NS.length
        rotate_left
        · have t1 : ¬ ((t : Int) < (NS.length : Int)) := by omega
          have HE : Hid (((RL.take (q + 1)).flatMap (named is bs)).countP (fun s => decide (s.2 = x)) = c0 + (NS.take t).countP (fun s => decide (s.2 = x))) := by
            show _ = _
            rw [HC1.out, List.take_of_length_le (by omega)]
          go_wp2
          go_roundw
          case rel => exact ⟨q + 1, by omega, by rw [HE.out], by go_num, HB3.out.trans (HT.out.mono HB3.out.size)⟩
          case measure => simp [intOf]; omega
        have t1 : (t : Int) < (NS.length : Int) := by omega
        obtain ⟨ca, cc, ec, -, hcs⟩ := HS2.out
        simp only [Value.slice.injEq, true_and] at ec
        obtain ⟨rfl, rfl⟩ := ec
        obtain ⟨gs, os, rfl, hgs, ks0, ks1⟩ := hcs t htl
        have HCT := hide (countP_take NS (fun s => decide (s.2 = x)) t htl)
        have hle := countP_take_le NS (fun s => decide (s.2 = x)) t
        obtain ⟨⟨sn, si⟩, hsn⟩ : ∃ X, NS[t] = X := ⟨_, rfl⟩
        rw [hsn] at ks0 ks1 HCT
        simp only at ks0 ks1 HCT
        replace ks1 := (HT.out.cell (p := ⟨gs, os + t * 2 + 1, none⟩) hgs).trans ks1
        obtain ⟨c1', hc1⟩ : ∃ c, (NS.take t).countP (fun s => decide (s.2 = x)) = c := ⟨_, rfl⟩
        rw [hc1] at HCT hle ⊢
        have hcle : c0 + c1' ≤ 1000 := by omega
        clear hsn hc1 hcs ks0
        by_cases hx : si = x
        · subst hx
          have HE : Hid ((NS.take (t + 1)).countP (fun s => decide (s.2 = si)) = c1' + 1) := hide (by have := HCT.out; simpa using this)
          go_wp2
          go_roundw
          case rel => exact ⟨t + 1, by omega, by rw [HE.out]; go_num, by go_num, HT.out⟩
          case measure => simp [intOf]; omega
        · have HE : Hid ((NS.take (t + 1)).countP (fun s => decide (s.2 = x)) = c1') := hide (by have := HCT.out; simpa [hx] using this)
          go_wp2
          go_roundw
          case rel => exact ⟨t + 1, by omega, by rw [HE.out], by go_num, HT.out⟩
          case measure => simp [intOf]; omega


end Go.Proofs.YtljooldjcefkoaaGreat
/- Of the specification: Dangling by its contract. -/
namespace Go.Proofs.YtljooldjcefkoaaGreat
open Go.RowKit Kit
/-- How many slots lead to nothing. -/
def dangN (is : List Ino) (bs : List Blk) : Nat := (slotsR is bs).countP (fun s => decide (kindAt is s.2 = 0))
set_option maxRecDepth 100000 in
set_option maxHeartbeats 3200000 in
theorem specDang_any (dx dy iv bv : Value) (xs ys : List Bool) (is : List Ino) (bs : List Blk) (w : World) (h : DR w dx dy iv bv xs ys is bs) (hX : RX xs ys is bs) :
    Calls Tryz.prog 16 #[.agg #[dx, dy, iv, bv]] w fun e w' => e = .returned (.int .i64 (dangN is bs)) ∧ Below w.heap.size w w' := by
  have hR := hX.r
  obtain ⟨a1, c1, a2, c2, a3, c3, a4, c4, rfl, rfl, rfl, rfl⟩ := h.form
  have HB0 : Hid (Below w.heap.size w (w.alloc (.cells #[.slice a1 xs.length c1, .slice a2 ys.length c2, .slice a3 is.length c3, .slice a4 bs.length c4] 35))) := (Below.refl _ w).alloc (Nat.le_refl _) _
  have HA0 := hide (AtC.new w 35 #[.slice a1 xs.length c1, .slice a2 ys.length c2, .slice a3 is.length c3, .slice a4 bs.length c4])
  have CR := hide (specReach_any (.slice a1 xs.length c1) (.slice a2 ys.length c2) (.slice a3 is.length c3) (.slice a4 bs.length c4) xs ys is bs (w.alloc (.cells #[.slice a1 xs.length c1, .slice a2 ys.length c2, .slice a3 is.length c3, .slice a4 bs.length c4] 35)) (h.alloc _) hR)
  have CN := hide (fun (x : Int) (W : World) (hb : Below w.heap.size w W) => slots_any x (.slice a1 xs.length c1) (.slice a2 ys.length c2) (.slice a3 is.length c3) (.slice a4 bs.length c4) xs ys is bs W (h.below hb (Nat.le_refl _)) hR)
  have HL8 : Hid (∀ x, (named is bs x).length ≤ 8) := hR.named8
  have HLT : Hid (∀ q, ((((reachL is bs).take q).flatMap (named is bs)).countP (fun s => decide (kindAt is s.2 = 0))) ≤ 64) := fun q => by
    have h1 := flatN_len hR ((reachL is bs).take q)
    have h2 := reachL_len is bs
    rw [List.length_take] at h1
    exact Nat.le_trans List.countP_le_length (by omega)
  have HI8 := hide hR.hi
  have HIN := hide h
  have HXS : Hid (∀ x, ∀ s ∈ named is bs x, 1 ≤ s.2 ∧ s.2 ≤ 8) := fun x s hs => hX.slot hs
  have HR8 := hide (reachL_len is bs)
  have HFT := hide (fun q hq => flat_take (reachL is bs) (named is bs) q hq)
  obtain ⟨RL, hRL⟩ : ∃ l, reachL is bs = l := ⟨_, rfl⟩
  have HRES : Hid (slotsR is bs = RL.flatMap (named is bs)) := by show slotsR is bs = _; unfold slotsR; rw [hRL]
  have HFIN : Hid ((dangN is bs) = (RL.flatMap (named is bs)).countP (fun s => decide (kindAt is s.2 = 0))) := by
    show _ = _
    rw [← HRES.out]
    rfl
  rw [HFIN.out]
  rw [hRL] at CR HLT HR8 HFT
  clear h hR hX hRL HRES HFIN
  go_enter Tryz.func16, Tryz.ntmps16
  go_wp2_with fail
  refine CR.out.mono ?_
  rintro e w1 ⟨rv, rfl, R1, B1⟩
  have HB1 := hide (HB0.out.trans (B1.mono HB0.out.size))
  have HA1 := hide (HA0.out.over B1)
  obtain ⟨ra, rc, rfl, hcr⟩ := R1.rints
  have HCR := hide hcr
  have r8 : RL.length ≤ 8 := HR8.out
  clear R1 B1 CR HB0 HA0 hcr
  go_wp2_with fail
  go_loopw [3, 5] (fun nv kv wr => ∃ (q : Nat), q ≤ RL.length ∧ nv = .int .i64 ((((RL.take q).flatMap (named is bs)).countP (fun s => decide (kindAt is s.2 = 0)) : Nat) : Int) ∧ kv = .int .i64 q ∧ Hid (Below w1.heap.size w1 wr)) (fun _ kv _ => RL.length - (intOf kv).toNat)
  case atStart => exact ⟨0, Nat.zero_le _, by simp, rfl, Below.refl _ _⟩
  case round =>
    obtain ⟨q, hq, rfl, rfl, HQ⟩ := hrel
    obtain ⟨wo, hwo⟩ : ∃ wo, wo = wr := ⟨_, rfl⟩
    subst hwo
    have q0 : (0 : Int) ≤ (q : Int) := by omega
    by_cases hlt : q < RL.length
    rotate_left
    · have q1 : ¬ ((q : Int) < (RL.length : Int)) := by omega
      rw [List.take_of_length_le (by omega)]
      go_wp2
      go_ret
      exact ⟨rfl, HB1.out.trans (HQ.out.mono HB1.out.size)⟩
    have q1 : (q : Int) < (RL.length : Int) := by omega
    obtain ⟨gr, orr, rfl, hgr, kr⟩ := HCR.out q hlt
    have HF1 := hide (HFT.out q hlt)
    have hn64 := HLT.out (q + 1)
    obtain ⟨di, hdi⟩ : ∃ x, RL[q] = x := ⟨_, rfl⟩
    rw [hdi] at kr HF1
    rw [HF1.out, List.countP_append] at hn64
    obtain ⟨c0, hc0⟩ : ∃ c, ((RL.take q).flatMap (named is bs)).countP (fun s => decide (kindAt is s.2 = 0)) = c := ⟨_, rfl⟩
    have HC1 : Hid (((RL.take (q + 1)).flatMap (named is bs)).countP (fun s => decide (kindAt is s.2 = 0)) = c0 + (named is bs di).countP (fun s => decide (kindAt is s.2 = 0))) := by
      show _ = _
      rw [HF1.out, List.countP_append, hc0]
    rw [hc0] at hn64 ⊢
    have HW : Hid (∀ W, Below wo.heap.size wo W → Below w.heap.size w W ∧ AtC W w.heap.size 35 #[.slice a1 xs.length c1, .slice a2 ys.length c2, .slice a3 is.length c3, .slice a4 bs.length c4] ∧ W.cell? ⟨gr, orr + q, none⟩ = some (.int .i64 di) ∧ Below w1.heap.size w1 W) := fun W b => by
      have b1 := HQ.out.trans (b.mono HQ.out.size)
      exact ⟨HB1.out.trans (b1.mono HB1.out.size), HA1.out.over b1, (b1.cell (p := ⟨gr, orr + q, none⟩) hgr).trans kr, b1⟩
    clear hdi kr hc0 HF1
    go_upto_region 6 with fail
    go_cut [6] from 10 to 52 (fun sv wx => ∃ a c, sv = .slice a (named is bs di).length c ∧ RSl wx (.slice a (named is bs di).length c) (named is bs di) ∧ Below wo.heap.size wo wx)
    case first =>
      obtain ⟨-, A0, kr, -⟩ := HW.out wo.drew (Below.refl _ wo).drew
      have z0 : wo.drew.cell? ⟨w.heap.size, 0, none⟩ = some (.slice a1 xs.length c1) := A0.cell 0
      have z1 : wo.drew.cell? ⟨w.heap.size, 1, none⟩ = some (.slice a2 ys.length c2) := A0.cell 1
      have z2 : wo.drew.cell? ⟨w.heap.size, 2, none⟩ = some (.slice a3 is.length c3) := A0.cell 2
      have z3 : wo.drew.cell? ⟨w.heap.size, 3, none⟩ = some (.slice a4 bs.length c4) := A0.cell 3
      have CN1 := hide (CN.out di wo.drew (HW.out wo.drew (Below.refl _ wo).drew).1)
      clear A0
      go_region_with (go_at_call 50; refine CN1.out.mono ?_; rintro e w2 ⟨nv, rfl, S2, B2⟩; obtain ⟨na, nc, rfl, -⟩ := S2.form)
      all_goals (try go_wp2_with fail)
      all_goals (go_meet; exact ⟨_, _, rfl, S2.rsl, of_drew B2⟩)
    case rest =>
      obtain ⟨na, nc, rfl, hS2, hB2⟩ := hcut
      obtain ⟨-, -, -, hB3⟩ := HW.out _ hB2
      have HS2 := hide hS2
      have HB3 := hide hB3
      have HN8 := HL8.out di
      clear hS2 hB2 hB3 HW HQ
      obtain ⟨NS, hNS⟩ : ∃ X, named is bs di = X := ⟨_, rfl⟩
      have HXN := hide (HXS.out di)
      rw [hNS] at HXN
      rw [hNS] at HC1 HS2 HN8 hn64 ⊢
      clear hNS
      obtain ⟨wx, hwx⟩ : ∃ wx, wx = wc := ⟨_, rfl⟩
      subst hwx
      go_wp2_with fail
      go_loopw [3, 7] (fun nv kv wr => ∃ (t : Nat), t ≤ NS.length ∧ nv = .int .i64 (((c0 + (NS.take t).countP (fun s => decide (kindAt is s.2 = 0)) : Nat)) : Int) ∧ kv = .int .i64 t ∧ Hid (Below wx.heap.size wx wr)) (fun _ kv _ => NS.length - (intOf kv).toNat)
      case atStart => exact ⟨0, Nat.zero_le _, by simp, rfl, Below.refl _ _⟩
      case round =>
        obtain ⟨t, ht, rfl, rfl, HT⟩ := hrel
        have t0 : (0 : Int) ≤ (t : Int) := by omega
        by_cases htl : t < NS.length
        rotate_left
        · have t1 : ¬ ((t : Int) < (NS.length : Int)) := by omega
          have HE : Hid (((RL.take (q + 1)).flatMap (named is bs)).countP (fun s => decide (kindAt is s.2 = 0)) = c0 + (NS.take t).countP (fun s => decide (kindAt is s.2 = 0))) := by
            show _ = _
            rw [HC1.out, List.take_of_length_le (by omega)]
          go_wp2
          go_roundw
          case rel => exact ⟨q + 1, by omega, by rw [HE.out], by go_num, HB3.out.trans (HT.out.mono HB3.out.size)⟩
          case measure => simp [intOf]; omega
        have t1 : (t : Int) < (NS.length : Int) := by omega
        obtain ⟨ca, cc, ec, -, hcs⟩ := HS2.out
        simp only [Value.slice.injEq, true_and] at ec
        obtain ⟨rfl, rfl⟩ := ec
        obtain ⟨gs, os, rfl, hgs, ks0, ks1⟩ := hcs t htl
        have HCT := hide (countP_take NS (fun s => decide (kindAt is s.2 = 0)) t htl)
        have hle := countP_take_le NS (fun s => decide (kindAt is s.2 = 0)) t
        obtain ⟨⟨sn, si⟩, hsn⟩ : ∃ X, NS[t] = X := ⟨_, rfl⟩
        have hrg := HXN.out NS[t] (List.getElem_mem htl)
        rw [hsn] at hrg
        simp only at hrg
        rw [hsn] at ks0 ks1 HCT
        simp only at ks0 ks1 HCT
        replace ks1 := (HT.out.cell (p := ⟨gs, os + t * 2 + 1, none⟩) hgs).trans ks1
        obtain ⟨c1', hc1⟩ : ∃ c, (NS.take t).countP (fun s => decide (kindAt is s.2 = 0)) = c := ⟨_, rfl⟩
        rw [hc1] at HCT hle ⊢
        have hcle : c0 + c1' ≤ 1000 := by omega
        clear hsn hc1 hcs ks0
        obtain ⟨bA, bD⟩ := And.intro ((HB3.out.trans (HT.out.mono HB3.out.size))) HA1.out
        have x2 : wr.cell? ⟨w.heap.size, 2, none⟩ = some (.slice a3 is.length c3) := (bD.over bA).cell 2
        obtain ⟨j, rfl⟩ : ∃ j : Nat, si = (j : Int) + 1 := ⟨(si - 1).toNat, by have := hrg.1; omega⟩
        have hj : j < is.length := by have := hrg.2; have := HI8.out; omega
        have hj8 : j < 8 := by have := HI8.out; omega
        have j0 : (0 : Int) ≤ (j : Int) := by omega
        have j1 : (j : Int) < (is.length : Int) := by omega
        have hwj : IntKind.i64.wrap (j : Int) = (j : Int) := wrap_small _ (by omega) (by omega)
        have hin : inB ((j : Int) + 1) 1 is.length = true := by simp [inB]; omega
        have HIB := hide hin
        obtain ⟨g2, o2, sa2, sc2, rfl, hg2, y0, -, -, -⟩ := DR.ino HIN.out j hj
        replace y0 := ((HB1.out.trans (bA.mono HB1.out.size)).cell (p := ⟨g2, o2 + j * 3, none⟩) hg2).trans y0
        obtain ⟨kd, hkd⟩ : ∃ k, kindAt is ((j : Int) + 1) = k := ⟨_, rfl⟩
        rw [hkd] at y0 HCT
        have CI := hide (fun (W : World) => l01In_any ((j : Int) + 1) 1 (is.length : Int) W)
        rw [hin] at CI
        clear bA bD hin hrg hkd
        go_upto_region 10 with fail
        go_quiet ((go_at_call 51; exact Calls.quiet_of_same (CI.out _)))
        by_cases hk0 : kd = 0
        · subst hk0
          have HE : Hid ((NS.take (t + 1)).countP (fun s => decide (kindAt is s.2 = 0)) = c1' + 1) := hide (by have := HCT.out; simpa using this)
          go_wp2
          go_roundw
          case rel => exact ⟨t + 1, by omega, by rw [HE.out]; go_num, by go_num, below_drewN HT.out _⟩
          case measure => simp [intOf]; omega
        · have HE : Hid ((NS.take (t + 1)).countP (fun s => decide (kindAt is s.2 = 0)) = c1') := hide (by have := HCT.out; simpa [hk0] using this)
          go_wp2
          go_roundw
          case rel => exact ⟨t + 1, by omega, by rw [HE.out], by go_num, below_drewN HT.out _⟩
          case measure => simp [intOf]; omega


end Go.Proofs.YtljooldjcefkoaaGreat
