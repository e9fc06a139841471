/- (impl.blockReader).slot by its contracts. -/
import Derived.Test.YtfffiboggpjjkaaRdI
namespace Go.Proofs.Ytfffiboggpjjkaa.Kit
open Go.RowKit
theorem grownBy_setNew {w w' : World} {row : Option Nat} (h : w.grownBy w' row) {g : Nat} (hg : w.heap.size ≤ g) (k : Nat) (x : Value) : w.grownBy (w'.setCell ⟨g, k, none⟩ x) row :=
  ⟨h.os, h.tape, h.output, by simpa using h.size, fun i hi hr => (heap_setCell_other w' ⟨g, k, none⟩ i x (by simp; omega)).trans (h.block i hi hr)⟩
theorem grownBy_setRow {w w' : World} {b : Nat} (h : w.grownBy w' (some b)) (k : Nat) (x : Value) : w.grownBy (w'.setCell ⟨b, k, none⟩ x) (some b) := grownBy_trans h (grownBy_setCell w' b k x)
end Go.Proofs.Ytfffiboggpjjkaa.Kit
namespace Go.Proofs.Ytfffiboggpjjkaa
open Go.RowKit Kit
theorem rsVal_none' {s : ByteArray} {p : Nat} (h : rsO s p = none) : rsVal s p = .tuple #[.string ⟨#[]⟩, .int .i64 0, .bool false] := by
  unfold rsO at h
  unfold rsVal
  cases hr : rd s p with
  | none => rfl
  | some nc =>
    obtain ⟨n, c⟩ := nc
    rw [hr] at h
    simp only at h ⊢
    split at h
    · rename_i hb; rw [if_pos hb]
    · cases h
theorem rsVal_some' {s : ByteArray} {p q : Nat} {t : ByteArray} (h : rsO s p = some (t, q)) : rsVal s p = .tuple #[.string t, .int .i64 q, .bool true] := by
  unfold rsO at h
  unfold rsVal
  cases hr : rd s p with
  | none => rw [hr] at h; cases h
  | some nc =>
    obtain ⟨n, c⟩ := nc
    rw [hr] at h
    simp only at h ⊢
    split at h
    · cases h
    · rename_i hb
      rw [if_neg hb]
      simp only [Option.some.injEq, Prod.mk.injEq] at h
      obtain ⟨rfl, rfl⟩ := h
      rfl
set_option maxHeartbeats 1600000 in
theorem slot_yes (b p q : Nat) (s t : ByteArray) (w : World) (hat : AtC w b 55 #[.string s, .int .i64 p]) (hp : p < s.size) (hs : s.size ≤ 1048576) (hr : rsO s (p + 1) = some (t, q)) :
    Calls Try.prog 71 #[.pointer (some ⟨b, 0, none⟩)] w fun e w' => e = .returned (.agg #[.string t, .int .i64 ((s[p]).toNat : Int)]) ∧ AtC w' b 55 #[.string s, .int .i64 q] ∧ w.grownBy w' (some b) := by
  have C1 := hide (fun W h => oneByte_yes b p s W h hp hs)
  have C2 := hide (fun W => implRS_in s (p + 1) W hs (by omega))
  rw [rsVal_some' hr] at C2
  obtain ⟨x, hx⟩ : ∃ x : Nat, (s[p]).toNat = x := ⟨_, rfl⟩
  have hx1 : x < 256 := by rw [← hx]; exact (s[p]).toNat_lt
  rw [hx] at C1 ⊢
  rw [show ((p : Int) + 1) = ((p + 1 : Nat) : Int) from rfl] at C1
  obtain ⟨p1, hp1⟩ : ∃ p1, p + 1 = p1 := ⟨_, rfl⟩
  rw [hp1] at C1 C2
  have HAT := hide hat
  have hbl := hat.lt
  clear hat hr hp hx hp1
  go_enter Try.func71, Try.ntmps71
  go_wp2_with fail
  refine (C1.out _ (HAT.out.alloc _)).mono ?_
  rintro e w1 ⟨rfl, A1, G1⟩
  have R1 : AtC w1 w.heap.size 36 #[.string ⟨#[]⟩, .int .i64 0] := (AtC.new w 36 _).grown G1 (by simp; omega)
  obtain ⟨c0, c1, hlt⟩ := A1.two
  have HA1 := hide A1
  have HR1 := hide R1
  have HG1 := hide (grownBy_trans (grownBy_below ((Below.refl _ w).alloc (Nat.le_refl _) (.cells #[.string ⟨#[]⟩, .int .i64 0] 36)) (some b)) G1)
  clear A1 R1 G1
  go_wp2_with fail
  go_region_held3 (fun w' => w'.cell? ⟨b, 0, none⟩ = some (.string s) ∧ w'.cell? ⟨b, 1, none⟩ = some (.int .i64 p1)) (first | exact ⟨c0, c1⟩ | exact ⟨((HA1.out.over (of_drew B6)).two).1, ((HA1.out.over (of_drew B6)).two).2.1⟩) ((go_at_call 73; refine (C2.out _).mono ?_; rintro e w6 ⟨rfl, B6⟩))
  have A6 := HA1.out.over (of_drew B6)
  have R6 := HR1.out.over (of_drew B6)
  have HG6 := hide (grownBy_trans HG1.out (grownBy_below (of_drew B6) (some b)))
  obtain ⟨d0, d1, hlt6⟩ := A6.two
  obtain ⟨g0, g1, -⟩ := A6.frz
  obtain ⟨r0, r1, hlr⟩ := R6.two
  obtain ⟨z0, z1, -⟩ := R6.frz
  have HA6 := hide A6
  have hne : ¬ b = w.heap.size := by omega
  clear A6 R6 B6
  go_wp2_with (go_at_call 70; refine (want_yes _ _).mono ?_; rintro e w7 ⟨rfl, rfl⟩)
  refine bodyPost_ret (v := .agg #[.string t, .int .i64 (x : Int)]) (by simp [results, go_sem, r0, r1]) rfl ⟨rfl, ?_, ?_⟩
  · exact ((HA6.out.set 1 (.int .i64 (q : Int))).other hne _).other hne _
  · exact grownBy_setNew (grownBy_setNew (grownBy_setRow HG6.out 1 _) (Nat.le_refl _) 0 _) (Nat.le_refl _) 1 _
set_option maxHeartbeats 1600000 in
theorem slot_end (b p : Nat) (s : ByteArray) (w : World) (hat : AtC w b 55 #[.string s, .int .i64 p]) (hp : ¬ p < s.size) :
    Calls Try.prog 71 #[.pointer (some ⟨b, 0, none⟩)] w fun e w' => e = .panicked stop ∧ w.grownBy w' (some b) := by
  have C1 := hide (fun W h => oneByte_no b p s W h hp)
  have HAT := hide hat
  clear hat hp
  go_enter Try.func71, Try.ntmps71
  go_wp2_with fail
  refine (C1.out _ (HAT.out.alloc _)).mono ?_
  rintro e w1 ⟨rfl, B1⟩
  exact ⟨rfl, rfl, grownBy_below (((Below.refl _ w).alloc (Nat.le_refl _) _).trans (B1.mono (by simp))) _⟩
set_option maxHeartbeats 1600000 in
theorem slot_bad (b p : Nat) (s : ByteArray) (w : World) (hat : AtC w b 55 #[.string s, .int .i64 p]) (hp : p < s.size) (hs : s.size ≤ 1048576) (hr : rsO s (p + 1) = none) :
    Calls Try.prog 71 #[.pointer (some ⟨b, 0, none⟩)] w fun e w' => e = .panicked stop ∧ w.grownBy w' (some b) := by
  have C1 := hide (fun W h => oneByte_yes b p s W h hp hs)
  have C2 := hide (fun W => implRS_in s (p + 1) W hs (by omega))
  rw [rsVal_none' hr] at C2
  obtain ⟨x, hx⟩ : ∃ x : Nat, (s[p]).toNat = x := ⟨_, rfl⟩
  have hx1 : x < 256 := by rw [← hx]; exact (s[p]).toNat_lt
  rw [hx] at C1
  rw [show ((p : Int) + 1) = ((p + 1 : Nat) : Int) from rfl] at C1
  obtain ⟨p1, hp1⟩ : ∃ p1, p + 1 = p1 := ⟨_, rfl⟩
  rw [hp1] at C1 C2
  have HAT := hide hat
  have hbl := hat.lt
  clear hat hr hp hx hp1
  go_enter Try.func71, Try.ntmps71
  go_wp2_with fail
  refine (C1.out _ (HAT.out.alloc _)).mono ?_
  rintro e w1 ⟨rfl, A1, G1⟩
  obtain ⟨c0, c1, hlt⟩ := A1.two
  have HA1 := hide A1
  have HG1 := hide (grownBy_trans (grownBy_below ((Below.refl _ w).alloc (Nat.le_refl _) (.cells #[.string ⟨#[]⟩, .int .i64 0] 36)) (some b)) G1)
  clear A1 G1
  go_wp2_with fail
  go_region_held3 (fun w' => w'.cell? ⟨b, 0, none⟩ = some (.string s) ∧ w'.cell? ⟨b, 1, none⟩ = some (.int .i64 p1)) (first | exact ⟨c0, c1⟩ | exact ⟨((HA1.out.over (of_drew B6)).two).1, ((HA1.out.over (of_drew B6)).two).2.1⟩) ((go_at_call 73; refine (C2.out _).mono ?_; rintro e w6 ⟨rfl, B6⟩))
  have HG6 := hide (grownBy_trans HG1.out (grownBy_below (of_drew B6) (some b)))
  clear B6
  go_wp2_with (go_at_call 70; refine (want_no _ _).mono ?_; rintro e w7 ⟨rfl, rfl⟩)
  exact ⟨rfl, rfl, HG6.out⟩
end Go.Proofs.Ytfffiboggpjjkaa
