/- (impl.blockReader).read, and its deferred closure by their contracts. -/
import Derived.Test.YtfffiboggpjjkaaRdB
import Derived.Recover
import Derived.Laws.Pointers
namespace Go.Proofs.Ytfffiboggpjjkaa
open Go.RowKit Kit
theorem grownBy_then {w w1 w2 : World} {row : Option Nat} (h : w.grownBy w1 row) (hb : Below w.heap.size w1 w2) : w.grownBy w2 row := ⟨hb.os.trans h.os, hb.tape.trans h.tape, hb.output.trans h.output, Nat.le_trans h.size hb.size, fun k hk hr => (hb.block k hk).trans (h.block k hk hr)⟩
theorem assert_nil (w : World) : (Instr.typeAssert .nilIface 20 82 true).run Try.prog w = .ok (.tuple #[.agg #[], .bool false]) w := by kernel_rfl
theorem assert_stop (w : World) : (Instr.typeAssert (.iface 82 (.agg #[])) 20 82 true).run Try.prog w = .ok (.tuple #[.agg #[], .bool true]) w := by kernel_rfl
theorem tmps57 (x y : Value) : #[x, y] ++ Array.replicate (Try.f57.ntmps - #[x, y].size) undef = #[x, y, undef, undef, undef, undef, undef, undef, undef, undef, undef] := by
  rw [Try.ntmps57]; rfl
set_option maxHeartbeats 800000 in
theorem catch_idle (b c : Nat) (w : World) :
    CallsD Try.prog 57 #[.pointer (some ⟨b, 0, none⟩), .pointer (some ⟨c, 0, none⟩)] .returning w fun e u' w' => e = .returned (.tuple #[]) ∧ u' = .returning ∧ Below w.heap.size w w' := by
  refine callsD_of_wpS Try.func57 rfl fun c₀ cs hu => ?_
  rw [tmps57]
  apply wpS_seq
  apply wpS_region
  simp [wpOpsS, go_sem, recoverD, hu, Exit.thenS, assert_nil]
  refine wpS_of_wp ?_
  go_wp2
  have hB : Below w.heap.size w (w.alloc (.cells #[] 82)) := (Below.refl _ w).alloc (Nat.le_refl _) _
  have HB := hide hB
  clear hB
  cases c₀
  simp_all [bodyPostS, results, Try.results57]
  exact HB.out
set_option maxHeartbeats 800000 in
theorem catch_stop (b c : Nat) (d0 d1 d2 o0 : Value) (w : World) (hb : AtC w b 26 #[d0, d1, d2]) (hc : AtC w c 4 #[o0]) (hn : b ≠ c) (B : Nat) (hbB : B ≤ b) (hcB : B ≤ c) :
    CallsD Try.prog 57 #[.pointer (some ⟨b, 0, none⟩), .pointer (some ⟨c, 0, none⟩)] (.panicking stop) w fun e u' w' => e = .returned (.tuple #[]) ∧ u' = .panicking [{ v := .iface 82 (.agg #[]), recovered := true }] ∧ AtC w' b 26 #[.bool false, .slice none 0 0, .string ⟨#[]⟩] ∧ AtC w' c 4 #[.bool false] ∧ Below B w w' := by
  have HB := hide hb
  have HC := hide hc
  obtain ⟨q0, q1, q2, ql⟩ := hb.three
  obtain ⟨f0, f1, f2⟩ := hb.frz
  have r0 := hc.cell 0
  have z0 := hc.frozen 0
  have rl := hc.lt
  clear hb hc
  refine callsD_of_wpS Try.func57 rfl fun c₀ cs hu => ?_
  rw [tmps57]
  apply wpS_seq
  apply wpS_region
  simp [wpOpsS, go_sem, recoverD, hu, Exit.thenS, assert_stop, stop]
  refine wpS_of_wp ?_
  go_wp2
  have X1 := ((((HB.out.set 0 (.bool false)).set 1 (.slice none 0 0)).set 2 (.string ⟨#[]⟩)).other (k := 0) hn (.bool false)).alloc (.cells #[] 82)
  have X2 := (((((HC.out.other (k := 0) hn.symm (.bool false)).other (k := 1) hn.symm (.slice none 0 0)).other (k := 2) hn.symm (.string ⟨#[]⟩))).set 0 (.bool false)).alloc (.cells #[] 82)
  have X3 := (((((Below.refl B w).setCell (p := ⟨b, 0, none⟩) hbB (.bool false)).setCell (p := ⟨b, 1, none⟩) hbB (.slice none 0 0)).setCell (p := ⟨b, 2, none⟩) hbB (.string ⟨#[]⟩)).setCell (p := ⟨c, 0, none⟩) hcB (.bool false)).alloc (by simp; omega) (.cells #[] 82)
  have HX := hide (And.intro X1 (And.intro X2 X3))
  clear X1 X2 X3
  simp [bodyPostS, results, Try.results57]
  exact HX.out
set_option maxHeartbeats 1600000 in
theorem read_stop (b : Nat) (s : ByteArray) (w : World) (hat : AtC w b 55 #[.string s, .int .i64 0]) (hs : s.size ≤ 1048576) (hr : readR s = none) :
    Calls Try.prog 36 #[.pointer (some ⟨b, 0, none⟩)] w fun e w' => e = .returned (.tuple #[.agg #[.bool false, .slice none 0 0, .string ⟨#[]⟩], .bool false]) ∧ w.grownBy w' (some b) := by
  have hmf : ∀ (fn : Fn) (first cap : Array Value) (w : World), (Instr.makeFunc fn first cap).run Try.prog w = .ok (.func fn first cap) w := fun _ _ _ _ => rfl
  have HAT := hide hat
  have hbl := hat.lt
  have C := hide (fun W h => block_any b s W h hs)
  have HN := hide hr
  clear hat hr
  go_enter_defers Try.func36, Try.ntmps36
  go_wp2_with fail
  refine (C.out _ ((HAT.out.alloc _).alloc _)).mono ?_
  rintro e w1 ⟨hans, G1⟩
  rw [blockAns_none HN.out] at hans
  subst hans
  have X1 : AtC w1 w.heap.size 26 #[.bool false, .slice none 0 0, .string ⟨#[]⟩] := ((AtC.new w 26 _).alloc _).grown G1 (by simp; omega)
  have X2 : AtC w1 (w.heap.size + 1) 4 #[.bool false] := by
    have := (AtC.new (w.alloc (.cells #[.bool false, .slice none 0 0, .string ⟨#[]⟩] 26)) 4 #[.bool false]).grown G1 (by simp; omega)
    simpa using this
  have HG := hide (grownBy_trans (grownBy_below (((Below.refl _ w).alloc (Nat.le_refl _) (.cells #[.bool false, .slice none 0 0, .string ⟨#[]⟩] 26)).alloc (by simp) (.cells #[.bool false] 4)) _) G1)
  clear G1
  refine leaves_cons (f := 57) (args := #[.pointer (some ⟨w.heap.size, 0, none⟩), .pointer (some ⟨w.heap.size + 1, 0, none⟩)]) (by simp) (by simp [go_sem]) ?_
  refine (catch_stop w.heap.size (w.heap.size + 1) _ _ _ _ w1 X1 X2 (by omega) w.heap.size (Nat.le_refl _) (by omega)).mono ?_
  rintro e u' w2 ⟨rfl, rfl, Y1, Y2, B2⟩
  obtain ⟨q0, q1, q2, ql⟩ := Y1.three
  have q3 := Y2.cell 0
  have HG2 := hide (show w.grownBy w2 (some b) from grownBy_then HG.out B2)
  clear Y1 Y2 B2 X1 X2
  simp [Leaves, settle, results, Try.results36, go_sem, q0, q1, q2, q3]
  exact HG2.out
set_option maxHeartbeats 1600000 in
theorem read_good (b : Nat) (s : ByteArray) (d : Bool) (xs : List Sl) (t : ByteArray) (w : World) (hat : AtC w b 55 #[.string s, .int .i64 0]) (hs : s.size ≤ 1048576) (hr : readR s = some (d, xs, t)) :
    Calls Try.prog 36 #[.pointer (some ⟨b, 0, none⟩)] w fun e w' => ∃ v, e = .returned (.tuple #[.agg #[.bool d, v, .string t], .bool true]) ∧ SOwns w' w.heap.size 36 v xs ∧ w.grownBy w' (some b) := by
  have hmf : ∀ (fn : Fn) (first cap : Array Value) (w : World), (Instr.makeFunc fn first cap).run Try.prog w = .ok (.func fn first cap) w := fun _ _ _ _ => rfl
  have HAT := hide hat
  have hbl := hat.lt
  have C := hide (fun W h => block_any b s W h hs)
  have HN := hide hr
  clear hat hr
  go_enter_defers Try.func36, Try.ntmps36
  go_wp2_with fail
  refine (C.out _ ((HAT.out.alloc _).alloc _)).mono ?_
  rintro e w1 ⟨hans, G1⟩
  rw [blockAns_some HN.out] at hans
  obtain ⟨v, rfl, O1⟩ := hans
  obtain ⟨a2, c2, rfl, -⟩ := O1.form
  have X1 : AtC w1 w.heap.size 26 #[.bool false, .slice none 0 0, .string ⟨#[]⟩] := ((AtC.new w 26 _).alloc _).grown G1 (by simp; omega)
  have X2 : AtC w1 (w.heap.size + 1) 4 #[.bool false] := by
    have := (AtC.new (w.alloc (.cells #[.bool false, .slice none 0 0, .string ⟨#[]⟩] 26)) 4 #[.bool false]).grown G1 (by simp; omega)
    simpa using this
  have HG := hide (grownBy_trans (grownBy_below (((Below.refl _ w).alloc (Nat.le_refl _) (.cells #[.bool false, .slice none 0 0, .string ⟨#[]⟩] 26)).alloc (by simp) (.cells #[.bool false] 4)) _) G1)
  obtain ⟨q0, q1, q2, ql⟩ := X1.three
  obtain ⟨f0, f1, f2⟩ := X1.frz
  have q3 := X2.cell 0
  have f3 := X2.frozen 0
  have ql2 := X2.lt
  have O2 : SOwns w1 (w.heap.size + 1 + 1) 36 (.slice a2 xs.length c2) xs := O1.base_le (by simp)
  have HO := hide O2
  have HX1 := hide X1
  have HX2 := hide X2
  clear G1 X1 X2 O1 O2
  go_wp2
  refine leaves_cons (f := 57) (args := #[.pointer (some ⟨w.heap.size, 0, none⟩), .pointer (some ⟨w.heap.size + 1, 0, none⟩)]) (by simp) (by simp [go_sem]) ?_
  refine (catch_idle w.heap.size (w.heap.size + 1) _).mono ?_
  rintro e u' w2 ⟨rfl, rfl, B2⟩
  have Y1 := ((((HX1.out.set 0 (.bool d)).set 1 (.slice a2 xs.length c2)).set 2 (.string t)).other (g := w.heap.size + 1) (k := 0) (by omega) (.bool true)).over B2
  have Y2 := ((((HX2.out.other (g := w.heap.size) (k := 0) (by omega) (.bool d)).other (g := w.heap.size) (k := 1) (by omega) (.slice a2 xs.length c2)).other (g := w.heap.size) (k := 2) (by omega) (.string t)).set 0 (.bool true)).over B2
  have O5 := ((((HO.out.setCell_low (b := w.heap.size) (j := 0) (by omega) (.bool d)).setCell_low (b := w.heap.size) (j := 1) (by omega) (.slice a2 xs.length c2)).setCell_low (b := w.heap.size) (j := 2) (by omega) (.string t)).setCell_low (b := w.heap.size + 1) (j := 0) (by omega) (.bool true)).below B2 (Nat.le_refl _)
  have G5 := grownBy_trans (grownBy_setNew (grownBy_setNew (grownBy_setNew (grownBy_setNew HG.out (Nat.le_refl _) 0 (.bool d)) (Nat.le_refl _) 1 (.slice a2 xs.length c2)) (Nat.le_refl _) 2 (.string t)) (show w.heap.size ≤ w.heap.size + 1 by omega) 0 (.bool true)) (grownBy_below B2 (some b))
  have HF := hide (And.intro (O5.base_le (show w.heap.size ≤ w.heap.size + 1 + 1 by omega)) G5)
  obtain ⟨q0, q1, q2, ql⟩ := AtC.three (x := .bool d) (y := .slice a2 xs.length c2) (z := .string t) Y1
  have q3 : w2.cell? ⟨w.heap.size + 1, 0, none⟩ = some (.bool true) := Y2.cell 0
  clear Y1 Y2 O5 G5 B2
  simp [Leaves, settle, results, Try.results36, go_sem, q0, q1, q2, q3]
  exact HF.out
end Go.Proofs.Ytfffiboggpjjkaa
