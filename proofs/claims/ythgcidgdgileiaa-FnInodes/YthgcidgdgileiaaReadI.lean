/- impl.ReadInode by its contract. -/
import Derived.Test.YthgcidgdgileiaaRead
namespace Go.Proofs.Ythgcidgdgileiaa
open Go.RowKit Kit

set_option maxHeartbeats 1600000 in
theorem implRead_len (s : ByteArray) (w : World) (h : s.size ≠ 4) (_h1 : s.size ≤ 1048576) :
    Calls Try.prog 12 #[.string s] w fun e w' => e = .returned (.tuple #[.agg #[.int .i64 0, .int .i64 0, .slice none 0 0], .bool false]) ∧ Below w.heap.size w w' := by
  have h2 : ((s.size : Int) != 4) = true := by simp; omega
  go_enter Try.func12, Try.ntmps12
  go_wp2
  refine bodyPost_ret (v := .tuple #[.agg #[.int .i64 0, .int .i64 0, .slice none 0 0], .bool false]) (by simp [results, go_sem]) rfl ⟨rfl, by go_grown⟩

set_option maxRecDepth 100000 in
set_option maxHeartbeats 1600000 in
theorem implRead_four (s : ByteArray) (w : World) (hs : s.size = 4) (a b c d : Nat) (ha : (s[0]).toNat = a) (hb : (s[1]).toNat = b) (hc : (s[2]).toNat = c) (hd : (s[3]).toNat = d) (r : Bool) (hr : okR a b c d = r) :
    Calls Try.prog 12 #[.string s] w fun e w' => ∃ v, e = .returned (.tuple #[.agg #[.int .i64 (if r then (a : Int) else 0), .int .i64 (if r then (b : Int) else 0), v], .bool r]) ∧ ROwns w' w.heap.size 3 v (ic (if r then [(c : Int), (d : Int)] else [])) ∧ Below w.heap.size w w' := by
  have C1 := hide (right_any a b c d)
  have C2 := hide (rec_any a b c d)
  rw [hr] at C1
  clear hr
  have h4 : (s.size : Int) = 4 := by omega
  have i0 : (0 : Int) < (s.size : Int) := by omega
  have i1 : (1 : Int) < (s.size : Int) := by omega
  have i2 : (2 : Int) < (s.size : Int) := by omega
  have i3 : (3 : Int) < (s.size : Int) := by omega
  have a1 : a < 256 := by have := (s[0]).toNat_lt; omega
  have b1 : b < 256 := by have := (s[1]).toNat_lt; omega
  have c1 : c < 256 := by have := (s[2]).toNat_lt; omega
  have d1 : d < 256 := by have := (s[3]).toNat_lt; omega
  go_enter Try.func12, Try.ntmps12
  go_wp2
  go_region
  go_wp2
  refine wp_loop_rounds 3 ?_
  rw [rounds_succ]
  go_wp2
  rw [rounds_succ]
  go_wp2
  rw [rounds_succ]
  go_wp2_with fail
  have B0 : Below w.heap.size w ((w.alloc (Obj.cells #[.int .i64 0, .int .i64 0, .slice none 0 0] 26)).alloc (Obj.cells #[.int .i64 a, .int .i64 b, .int .i64 c, .int .i64 d] 50)).drew := (((Below.refl _ w).alloc (Nat.le_refl _) _).alloc (by simp) _).drew
  refine (C1.out _).mono ?_
  rintro e w1 ⟨rfl, B1⟩
  have Y0 : AtT 26 w1 w.heap.size 0 0 (.slice none 0 0) := AtT.below (w := ((w.alloc (Obj.cells #[.int .i64 0, .int .i64 0, .slice none 0 0] 26)).alloc (Obj.cells #[.int .i64 a, .int .i64 b, .int .i64 c, .int .i64 d] 50)).drew) (heap_new2 w _ _) B1 (by simp; omega)
  have K1 : w1.heap[w.heap.size + 1]? = some (.cells #[.int .i64 a, .int .i64 b, .int .i64 c, .int .i64 d] 50 (0, 0)) := by
    rw [B1.block (w.heap.size + 1) (by simp)]
    have := heap_new (w.alloc (Obj.cells #[.int .i64 0, .int .i64 0, .slice none 0 0] 26)) (Obj.cells #[.int .i64 a, .int .i64 b, .int .i64 c, .int .i64 d] 50)
    rw [World.size_alloc] at this
    exact this
  have b1 : Below w.heap.size w w1 := B0.trans (B1.mono B0.size)
  obtain ⟨q0, q1, q2, z0, z1, z2, m0⟩ := res_cells (w1 := w1) (b := w.heap.size) Y0
  have r0 : w1.cell? ⟨w.heap.size + 1, 0, none⟩ = some (.int .i64 a) := by simp [World.cell?, K1]
  have r1 : w1.cell? ⟨w.heap.size + 1, 1, none⟩ = some (.int .i64 b) := by simp [World.cell?, K1]
  have r2 : w1.cell? ⟨w.heap.size + 1, 2, none⟩ = some (.int .i64 c) := by simp [World.cell?, K1]
  have r3 : w1.cell? ⟨w.heap.size + 1, 3, none⟩ = some (.int .i64 d) := by simp [World.cell?, K1]
  have HB := hide b1
  have HY := hide Y0
  clear B1 Y0 K1 b1 B0 C1 ha hb hc hd hs i0 i1 i2 i3
  cases r with
  | true =>
    clear q0 q1 q2 z0 z1 z2
    go_wp2_with fail
    refine (C2.out _).mono ?_
    rintro e w2 ⟨v, rfl, O2, B2⟩
    obtain ⟨s1, t1, rfl⟩ := O2.form2
    obtain ⟨q0, q1, q2, z0, z1, z2, m2⟩ := res_cells (w1 := w2) (b := w.heap.size) (HY.out.below B2 HY.out.lt)
    have HO := hide O2
    have HB2 := hide (HB.out.trans (B2.mono HB.out.size))
    have hsz := HB.out.size
    clear O2 B2 C2 HB HY r0 r1 r2 r3
    go_wp2
    refine bodyPost_ret (v := .tuple #[.agg #[.int .i64 a, .int .i64 b, .slice s1 2 t1], .bool true]) (by simp [results, go_sem, q0, q1, q2]) rfl ⟨_, rfl, ?_, ?_⟩
    · exact ((((HO.out.setCell_other m0 _).setCell_other m0 _).setCell_other m0 _).base_le hsz)
    · exact ((HB2.out.setCell (Nat.le_refl _) _).setCell (Nat.le_refl _) _).setCell (Nat.le_refl _) _
  | false =>
    clear r0 r1 r2 r3
    go_wp2
    refine bodyPost_ret (v := .tuple #[.agg #[.int .i64 0, .int .i64 0, .slice none 0 0], .bool false]) (by simp [results, go_sem, q0, q1, q2]) rfl ⟨_, rfl, ROwns.nil _ _ _, ?_⟩
    exact ((HB.out.setCell (Nat.le_refl _) _).setCell (Nat.le_refl _) _).setCell (Nat.le_refl _) _

/-- A text tells an inode, or none. -/
def Rd (s : ByteArray) (r : Bool) (k l : Int) (xs : List Int) : Prop :=
  (s.size ≠ 4 ∧ r = false ∧ k = 0 ∧ l = 0 ∧ xs = []) ∨
  ∃ (_ : s.size = 4) (a b c d : Nat), (s[0]).toNat = a ∧ (s[1]).toNat = b ∧ (s[2]).toNat = c ∧ (s[3]).toNat = d ∧ okR a b c d = r ∧ k = (if r then (a : Int) else 0) ∧ l = (if r then (b : Int) else 0) ∧ xs = (if r then [(c : Int), (d : Int)] else [])
theorem Rd.none {s : ByteArray} (h : s.size ≠ 4) : Rd s false 0 0 [] := .inl ⟨h, rfl, rfl, rfl, rfl⟩
theorem Rd.four {s : ByteArray} (h : s.size = 4) (a b c d : Nat) (ha : (s[0]).toNat = a) (hb : (s[1]).toNat = b) (hc : (s[2]).toNat = c) (hd : (s[3]).toNat = d) (r : Bool) (hr : okR a b c d = r) : Rd s r (if r then (a : Int) else 0) (if r then (b : Int) else 0) (if r then [(c : Int), (d : Int)] else []) :=
  .inr ⟨h, a, b, c, d, ha, hb, hc, hd, hr, rfl, rfl, rfl⟩
theorem rd_ex (s : ByteArray) : ∃ r k l xs, Rd s r k l xs ∧ xs.length ≤ 2 := by
  by_cases h : s.size = 4
  · refine ⟨_, _, _, _, .four h _ _ _ _ rfl rfl rfl rfl _ rfl, ?_⟩
    split <;> simp
  · exact ⟨_, _, _, _, .none h, by simp⟩
theorem specRead_any {s : ByteArray} {r : Bool} {k l : Int} {xs : List Int} (h : Rd s r k l xs) (w : World) (h1 : s.size ≤ 1048576) :
    Calls Try.prog 14 #[.string s] w fun e w' => ∃ v, e = .returned (.tuple #[.agg #[.int .i64 k, .int .i64 l, v], .bool r]) ∧ ROwns w' w.heap.size 3 v (ic xs) ∧ Below w.heap.size w w' := by
  rcases h with ⟨h, rfl, rfl, rfl, rfl⟩ | ⟨h, a, b, c, d, ha, hb, hc, hd, hr, rfl, rfl, rfl⟩
  · exact (specRead_len s w h h1).mono fun e w' ⟨he, hb⟩ => ⟨_, he, ROwns.nil _ _ _, hb⟩
  · exact specRead_four s w h a b c d ha hb hc hd r hr
theorem implRead_any {s : ByteArray} {r : Bool} {k l : Int} {xs : List Int} (h : Rd s r k l xs) (w : World) (h1 : s.size ≤ 1048576) :
    Calls Try.prog 12 #[.string s] w fun e w' => ∃ v, e = .returned (.tuple #[.agg #[.int .i64 k, .int .i64 l, v], .bool r]) ∧ ROwns w' w.heap.size 3 v (ic xs) ∧ Below w.heap.size w w' := by
  rcases h with ⟨h, rfl, rfl, rfl, rfl⟩ | ⟨h, a, b, c, d, ha, hb, hc, hd, hr, rfl, rfl, rfl⟩
  · exact (implRead_len s w h h1).mono fun e w' ⟨he, hb⟩ => ⟨_, he, ROwns.nil _ _ _, hb⟩
  · exact implRead_four s w h a b c d ha hb hc hd r hr
end Go.Proofs.Ythgcidgdgileiaa
