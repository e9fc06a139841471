
/- laws.eqDep, laws.eqDepS and laws.eqMem of the same parts, by their contracts. -/
import Derived.Test.YtgjbenbodegnjaaDd
import Derived.Test.YtgjbenbodegnjaaQs
namespace Go.Proofs.Ytgjbenbodegnjaa
open Go.RowKit Kit
set_option maxRecDepth 100000 in
set_option maxHeartbeats 1600000 in
theorem eqDep_same (id kd io pt bk sl : Int) (nm : ByteArray) (bt ot : Bool) (af : Int) (bl : List Int) (p q : Value) (w : World) (h1 : RInts w p bl) (h2 : RInts w q bl) (hl : bl.length ≤ 1000000000) :
    Calls Try.prog 31 #[.agg #[.int .i64 id, .int .i64 kd, .int .i64 io, .int .i64 pt, .int .i64 bk, .int .i64 sl, .string nm, .bool bt, .bool ot, .int .i64 af, p], .agg #[.int .i64 id, .int .i64 kd, .int .i64 io, .int .i64 pt, .int .i64 bk, .int .i64 sl, .string nm, .bool bt, .bool ot, .int .i64 af, q]] w fun e w' => e = .returned (.bool true) ∧ Below w.heap.size w w' := by
  have H1 := hide h1
  have H2 := hide h2
  obtain ⟨pa, pc, rfl⟩ := h1.form
  obtain ⟨pb, pd, rfl⟩ := h2.form
  clear h1 h2
  go_enter Try.func31, Try.ntmps31
  go_wp2_with fail
  refine (eqI_same _ _ bl _ ((H1.out.alloc _).alloc _) ((H2.out.alloc _).alloc _) hl).mono ?_
  rintro e w1 ⟨rfl, B1⟩
  have HB : Hid (Below w.heap.size w w1) := (((Below.refl _ w).alloc (Nat.le_refl _) _).alloc (by simp) _).trans (B1.mono (by simp; omega))
  clear B1
  go_wp2
  go_ret
  exact ⟨rfl, HB.out⟩
set_option maxRecDepth 100000 in
set_option maxHeartbeats 3200000 in
theorem eqDepS_same (va vb : Value) (l : List Dp) (w : World) (ha : RN KDep w va l) (hb : RN KDep w vb l) (hl : l.length ≤ 1048576) (hp : ∀ (j : Nat) (h : j < l.length), l[j].bl.length ≤ 1048576) :
    Calls Try.prog 18 #[va, vb] w fun e w' => e = .returned (.bool true) ∧ Below w.heap.size w w' := by
  obtain ⟨a1, c1, rfl, -, ha'⟩ := ha.dep
  obtain ⟨a2, c2, rfl, -, hb'⟩ := hb.dep
  have HA := hide ha'
  have HB := hide hb'
  have HP := hide hp
  clear ha hb hp ha' hb'
  go_enter Try.func18, Try.ntmps18
  go_wp2
  go_loopw [5] (fun i wr => ∃ j : Nat, j ≤ l.length ∧ i = .int .i64 j ∧ Below w.heap.size w wr) (fun i _ => l.length - (intOf i).toNat)
  case atStart => exact ⟨0, Nat.zero_le _, rfl, Below.refl _ _⟩
  case round =>
    obtain ⟨j, hj, rfl, hb⟩ := hrel
    by_cases hlt : j < l.length
    · obtain ⟨g1, o1, p1, rfl, hg1, m1, hr1⟩ := HA.out j hlt
      obtain ⟨g2, o2, p2, rfl, hg2, m2, hr2⟩ := HB.out j hlt
      have hpl := HP.out j hlt
      obtain ⟨x, hx⟩ : ∃ x, l[j] = x := ⟨_, rfl⟩
      obtain ⟨id, kd, io, pt, bk, sl, nm, bt, ot, af, bl⟩ := x
      rw [hx] at m1 m2 hr1 hr2 hpl
      simp only at hr1 hr2 hpl
      obtain ⟨pa, pc, rfl⟩ := hr1.form
      obtain ⟨pb, pd, rfl⟩ := hr2.form
      have HS : Hid (∀ w', Below w.heap.size w w' → w'.cell? ⟨g1, o1 + j * 11, none⟩ = some (.int .i64 id) ∧ w'.cell? ⟨g1, o1 + j * 11 + 1, none⟩ = some (.int .i64 kd) ∧ w'.cell? ⟨g1, o1 + j * 11 + 2, none⟩ = some (.int .i64 io) ∧ w'.cell? ⟨g1, o1 + j * 11 + 3, none⟩ = some (.int .i64 pt) ∧ w'.cell? ⟨g1, o1 + j * 11 + 4, none⟩ = some (.int .i64 bk) ∧ w'.cell? ⟨g1, o1 + j * 11 + 5, none⟩ = some (.int .i64 sl) ∧ w'.cell? ⟨g1, o1 + j * 11 + 6, none⟩ = some (.string nm) ∧ w'.cell? ⟨g1, o1 + j * 11 + 7, none⟩ = some (.bool bt) ∧ w'.cell? ⟨g1, o1 + j * 11 + 8, none⟩ = some (.bool ot) ∧ w'.cell? ⟨g1, o1 + j * 11 + 9, none⟩ = some (.int .i64 af) ∧ w'.cell? ⟨g1, o1 + j * 11 + 10, none⟩ = some (.slice pa bl.length pc) ∧ w'.cell? ⟨g2, o2 + j * 11, none⟩ = some (.int .i64 id) ∧ w'.cell? ⟨g2, o2 + j * 11 + 1, none⟩ = some (.int .i64 kd) ∧ w'.cell? ⟨g2, o2 + j * 11 + 2, none⟩ = some (.int .i64 io) ∧ w'.cell? ⟨g2, o2 + j * 11 + 3, none⟩ = some (.int .i64 pt) ∧ w'.cell? ⟨g2, o2 + j * 11 + 4, none⟩ = some (.int .i64 bk) ∧ w'.cell? ⟨g2, o2 + j * 11 + 5, none⟩ = some (.int .i64 sl) ∧ w'.cell? ⟨g2, o2 + j * 11 + 6, none⟩ = some (.string nm) ∧ w'.cell? ⟨g2, o2 + j * 11 + 7, none⟩ = some (.bool bt) ∧ w'.cell? ⟨g2, o2 + j * 11 + 8, none⟩ = some (.bool ot) ∧ w'.cell? ⟨g2, o2 + j * 11 + 9, none⟩ = some (.int .i64 af) ∧ w'.cell? ⟨g2, o2 + j * 11 + 10, none⟩ = some (.slice pb bl.length pd)) := fun w' hb => by
        have n1 := m1.below hb hg1
        have n2 := m2.below hb hg2
        simp only [DCells] at n1 n2
        exact ⟨n1.1, n1.2.1, n1.2.2.1, n1.2.2.2.1, n1.2.2.2.2.1, n1.2.2.2.2.2.1, n1.2.2.2.2.2.2.1, n1.2.2.2.2.2.2.2.1, n1.2.2.2.2.2.2.2.2.1, n1.2.2.2.2.2.2.2.2.2.1, n1.2.2.2.2.2.2.2.2.2.2, n2.1, n2.2.1, n2.2.2.1, n2.2.2.2.1, n2.2.2.2.2.1, n2.2.2.2.2.2.1, n2.2.2.2.2.2.2.1, n2.2.2.2.2.2.2.2.1, n2.2.2.2.2.2.2.2.2.1, n2.2.2.2.2.2.2.2.2.2.1, n2.2.2.2.2.2.2.2.2.2.2⟩
      have HR : Hid (∀ w', Below w.heap.size w w' → RInts w' (.slice pa bl.length pc) bl ∧ RInts w' (.slice pb bl.length pd) bl) := fun w' hb => ⟨hr1.below hb (Nat.le_refl _), hr2.below hb (Nat.le_refl _)⟩
      have HPL : Hid (bl.length ≤ 1000000000) := Nat.le_trans hpl (by decide)
      clear hx m1 m2 hr1 hr2 hpl
      have hh := HS.out _ hb
      obtain ⟨r0, r1, r2, r3, r4, r5, r6, r7, r8, r9, r10, r11, r12, r13, r14, r15, r16, r17, r18, r19, r20, r21⟩ := hh
      have j0 : (0 : Int) ≤ (j : Int) := by omega
      have j1 : (j : Int) < (l.length : Int) := by omega
      have hsz := hb.size
      have HBB := hide hb
      clear hb
      go_wp2_with fail
      go_region_held3 (fun w' => w'.cell? ⟨g1, o1 + j * 11, none⟩ = some (.int .i64 id) ∧ w'.cell? ⟨g1, o1 + j * 11 + 1, none⟩ = some (.int .i64 kd) ∧ w'.cell? ⟨g1, o1 + j * 11 + 2, none⟩ = some (.int .i64 io) ∧ w'.cell? ⟨g1, o1 + j * 11 + 3, none⟩ = some (.int .i64 pt) ∧ w'.cell? ⟨g1, o1 + j * 11 + 4, none⟩ = some (.int .i64 bk) ∧ w'.cell? ⟨g1, o1 + j * 11 + 5, none⟩ = some (.int .i64 sl) ∧ w'.cell? ⟨g1, o1 + j * 11 + 6, none⟩ = some (.string nm) ∧ w'.cell? ⟨g1, o1 + j * 11 + 7, none⟩ = some (.bool bt) ∧ w'.cell? ⟨g1, o1 + j * 11 + 8, none⟩ = some (.bool ot) ∧ w'.cell? ⟨g1, o1 + j * 11 + 9, none⟩ = some (.int .i64 af) ∧ w'.cell? ⟨g1, o1 + j * 11 + 10, none⟩ = some (.slice pa bl.length pc) ∧ w'.cell? ⟨g2, o2 + j * 11, none⟩ = some (.int .i64 id) ∧ w'.cell? ⟨g2, o2 + j * 11 + 1, none⟩ = some (.int .i64 kd) ∧ w'.cell? ⟨g2, o2 + j * 11 + 2, none⟩ = some (.int .i64 io) ∧ w'.cell? ⟨g2, o2 + j * 11 + 3, none⟩ = some (.int .i64 pt) ∧ w'.cell? ⟨g2, o2 + j * 11 + 4, none⟩ = some (.int .i64 bk) ∧ w'.cell? ⟨g2, o2 + j * 11 + 5, none⟩ = some (.int .i64 sl) ∧ w'.cell? ⟨g2, o2 + j * 11 + 6, none⟩ = some (.string nm) ∧ w'.cell? ⟨g2, o2 + j * 11 + 7, none⟩ = some (.bool bt) ∧ w'.cell? ⟨g2, o2 + j * 11 + 8, none⟩ = some (.bool ot) ∧ w'.cell? ⟨g2, o2 + j * 11 + 9, none⟩ = some (.int .i64 af) ∧ w'.cell? ⟨g2, o2 + j * 11 + 10, none⟩ = some (.slice pb bl.length pd)) (first | exact HS.out _ HBB.out.drew | exact HS.out _ (HBB.out.trans ((of_drew B6).mono hsz))) ((go_at_call 31; refine (eqDep_same id kd io pt bk sl nm bt ot af bl _ _ _ (HR.out _ HBB.out.drew).1 (HR.out _ HBB.out.drew).2 HPL.out).mono ?_; rintro e w6 ⟨rfl, B6⟩))
      have HB2 := hide (HBB.out.trans ((of_drew B6).mono hsz))
      clear B6
      go_wp2
      go_roundw
      case rel => exact ⟨j + 1, by omega, by go_num, HB2.out⟩
      case measure => simp [intOf]; omega
    · have HBB := hide hb
      clear hb
      go_wp2
      go_ret
      exact ⟨rfl, HBB.out⟩
end Go.Proofs.Ytgjbenbodegnjaa
