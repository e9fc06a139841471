/- (impl.blockReader).dir by its contract. -/
import Derived.Test.YtfffiboggpjjkaaRdS
import Derived.Test.YtfffiboggpjjkaaNew
namespace Go.Proofs.Ytfffiboggpjjkaa.Kit
open Go.RowKit
/-- j slots are read, the others are without anything yet. -/
def filled (j : Nat) (ys : List Sl) : List Sl := ys ++ List.replicate (4 - j) ((⟨#[]⟩, 0) : Sl)
theorem grownBy_of_drew {w w' : World} {row : Option Nat} (h : w.drew.grownBy w' row) : w.grownBy w' row := grownBy_trans (grownBy_below (Below.refl _ w).drew _) h
theorem filled_length {j : Nat} {ys : List Sl} (h : ys.length = j) (hj : j ≤ 4) : (filled j ys).length = 4 := by simp [filled]; omega
theorem filled_set {j : Nat} {ys : List Sl} (h : ys.length = j) (hj : j < 4) (x : Sl) : (filled j ys).set j x = filled (j + 1) (ys ++ [x]) := by
  unfold filled
  rw [List.set_append_right _ _ (by omega), h, Nat.sub_self, show 4 - j = (4 - (j + 1)) + 1 by omega, List.replicate_succ, List.set_cons_zero]
  simp
theorem filled_all {ys : List Sl} : filled 4 ys = ys := by simp [filled]
end Go.Proofs.Ytfffiboggpjjkaa.Kit
namespace Go.Proofs.Ytfffiboggpjjkaa
open Go.RowKit Kit
/-- A directory is read to the end of the text. -/
def dirR (s : ByteArray) : Option (List Sl) := match tk s 4 1 with
  | none => none
  | some (xs, e) => if e = s.size then some xs else none
/-- What is answered: the slots read, or the panic. -/
def dirAns (s : ByteArray) (base : Nat) (e : Ending) (w' : World) : Prop := match dirR s with
  | some xs => ∃ v, e = .returned (.agg #[.bool true, v, .string ⟨#[]⟩]) ∧ SOwns w' base 36 v xs
  | none => e = .panicked stop
theorem dirAns_none {s : ByteArray} (h : tk s 4 1 = none) (base : Nat) (e : Ending) (w' : World) : dirAns s base e w' = (e = .panicked stop) := by simp [dirAns, dirR, h]
theorem dirAns_more {s : ByteArray} {xs : List Sl} {p : Nat} (h : tk s 4 1 = some (xs, p)) (hp : p ≠ s.size) (base : Nat) (e : Ending) (w' : World) : dirAns s base e w' = (e = .panicked stop) := by simp [dirAns, dirR, h, hp]
theorem dirAns_some {s : ByteArray} {xs : List Sl} {p : Nat} (h : tk s 4 1 = some (xs, p)) (hp : p = s.size) (base : Nat) (e : Ending) (w' : World) : dirAns s base e w' = (∃ v, e = .returned (.agg #[.bool true, v, .string ⟨#[]⟩]) ∧ SOwns w' base 36 v xs) := by simp [dirAns, dirR, h, hp]
/-- What holds of the world while slots are read. -/
structure Dir (w wr : World) (b V g c : Nat) (s : ByteArray) (j p : Nat) (ys : List Sl) : Prop where
  at_ : AtC wr b 55 #[.string s, .int .i64 p]
  res : AtC wr w.heap.size 26 #[.bool false, .slice none 0 0, .string ⟨#[]⟩]
  var : AtC wr V 26 #[.bool true, .slice (some ⟨g, 0, none⟩) 4 c, .string ⟨#[]⟩]
  own : SOwns wr (w.heap.size + 1) 36 (.slice (some ⟨g, 0, none⟩) 4 c) (filled j ys)
  gro : w.grownBy wr (some b)
  bl : b < w.heap.size
  gv : g < V
  gl : w.heap.size < g
  up : Upto s j p ys
set_option linter.unusedSimpArgs false in
set_option maxRecDepth 100000 in
set_option maxHeartbeats 3200000 in
theorem dir_any (b : Nat) (s : ByteArray) (w : World) (hat : AtC w b 55 #[.string s, .int .i64 1]) (hs : s.size ≤ 1048576) (h1 : 1 ≤ s.size) :
    Calls Try.prog 68 #[.pointer (some ⟨b, 0, none⟩)] w fun e w' => dirAns s w.heap.size e w' ∧ w.grownBy w' (some b) := by
  have HAT := hide hat
  have hbl := hat.lt
  clear hat
  go_enter Try.func68, Try.ntmps68
  go_wp2_with fail
  refine (implNew_any _).mono ?_
  rintro e w1 ⟨v, rfl, O1, B1⟩
  obtain ⟨a1, c, rfl⟩ := O1.form4
  obtain ⟨g, c2, e1, -, -, -, hg1, hg2, -⟩ := O1.at 0 (by decide)
  simp only [Value.slice.injEq] at e1
  obtain ⟨rfl, -, rfl⟩ := e1
  obtain ⟨V, hV⟩ : ∃ V, w1.heap.size = V := ⟨_, rfl⟩
  have D0 : Dir w (w1.alloc (.cells #[.bool true, .slice (some ⟨g, 0, none⟩) 4 c, .string ⟨#[]⟩] 26)) b V g c s 0 1 [] := by
    refine ⟨((HAT.out.alloc _).over B1).alloc _, ((AtC.new w 26 _).over B1).alloc _, by rw [← hV]; exact AtC.new w1 26 _, ((O1.base_le (by simp)).alloc _), ?_, hbl, by omega, by simp at hg1; omega, Upto.start h1⟩
    exact grownBy_below (((Below.refl _ w).alloc (Nat.le_refl _) _).trans (B1.mono (by simp)) |>.alloc (by have := B1.size; simp at this; omega) _) _
  have HD0 := hide D0
  clear D0 O1 B1 hg1 hg2
  go_wp2_with fail
  go_loopw [4, 9] (fun _ i wr => ∃ (j p : Nat) (ys : List Sl), j ≤ 4 ∧ i = .int .i64 j ∧ Dir w wr b V g c s j p ys) (fun _ i _ => 4 - (intOf i).toNat)
  case atStart => exact ⟨0, 1, [], Nat.zero_le _, rfl, HD0.out⟩
  case round =>
    obtain ⟨j, p, ys, hj, rfl, hd⟩ := hrel
    have HD := hide hd
    clear hd
    by_cases hlt : j < 4
    · have v1 : wr.cell? ⟨V, 1, none⟩ = some (.slice (some ⟨g, 0, none⟩) 4 c) := HD.out.var.three.2.1
      have j0 : (0 : Int) ≤ (j : Int) := by omega
      have j1 : (j : Int) < 4 := by omega
      by_cases hp : p < s.size
      · cases hr : rsO s (p + 1) with
        | none =>
          have HQ := hide (HD.out.up.none hlt hp hr)
          have HR := hide hr
          clear hr
          go_wp2_with fail
          refine wp_region_held_drew (S := fun w' => w'.cell? ⟨V, 1, none⟩ = some (.slice (some ⟨g, 0, none⟩) 4 c)) (by kernel_rfl) v1 (fun hHeld => ?_)
          refine wpAnyH_take (i := 0) (oi := { dst := some 12, op := Op.fieldAddr 26 (Operand.tmp 3) 1, type := _, pos := _, after := _, guard := none }) (v := ?_) rfl (by kernel_rfl) (by kernel_rfl) (by kernel_rfl) (fun _ _ _ h => h) (Or.inl ⟨by rfl, ?_⟩) hHeld ?_
          rotate_left
          · intro W hSw; (try dsimp only at hSw); go_simp; (try with_reducible rfl)
          try simp only [Act.put, List.setIfInBounds_toArray, List.set_cons_zero, List.set_cons_succ]
          refine wpAnyH_take (i := 1) (oi := { dst := some 13, op := Op.load 24 (Operand.tmp 12), type := _, pos := _, after := _, guard := none }) (v := ?_) rfl (by kernel_rfl) (by kernel_rfl) (by kernel_rfl) (fun _ _ _ h => h) (Or.inl ⟨by rfl, ?_⟩) hHeld ?_
          rotate_left
          · intro W hSw; (try dsimp only at hSw); go_simp; (try with_reducible rfl)
          try simp only [Act.put, List.setIfInBounds_toArray, List.set_cons_zero, List.set_cons_succ]
          refine wpAnyH_take (i := 2) (oi := { dst := some 14, op := Op.move (Operand.tmp 4), type := _, pos := _, after := _, guard := none }) (v := ?_) rfl (by kernel_rfl) (by kernel_rfl) (by kernel_rfl) (fun _ _ _ h => h) (Or.inl ⟨by rfl, ?_⟩) hHeld ?_
          rotate_left
          · intro W hSw; (try dsimp only at hSw); go_simp; (try with_reducible rfl)
          try simp only [Act.put, List.setIfInBounds_toArray, List.set_cons_zero, List.set_cons_succ]
          refine wpAnyH_take (i := 3) (oi := { dst := some 15, op := Op.move (Operand.tmp 0), type := _, pos := _, after := _, guard := none }) (v := ?_) rfl (by kernel_rfl) (by kernel_rfl) (by kernel_rfl) (fun _ _ _ h => h) (Or.inl ⟨by rfl, ?_⟩) hHeld ?_
          rotate_left
          · intro W hSw; (try dsimp only at hSw); go_simp; (try with_reducible rfl)
          try simp only [Act.put, List.setIfInBounds_toArray, List.set_cons_zero, List.set_cons_succ]
          refine wpAnyH_ready (rs := [4]) (by kernel_rfl) (by simp) ?_
          refine AllReadyH.cons (o := { dst := some 16, op := Op.call { callee := Callee.value (Operand.func 71), args := #[Operand.tmp 15], argTypes := #[80] }, type := _, pos := _, after := _, guard := none }) rfl (fun K hK => ?_) ?_
          · go_simp
            refine (slot_bad b p s _ HD.out.at_.drew hp hs HR.out).mono ?_
            rintro e w6 ⟨rfl, G6⟩
            exact ⟨rfl, by rw [dirAns_none HQ.out], grownBy_trans HD.out.gro (grownBy_of_drew G6)⟩
          · exact AllReadyH.nil
        | some tq =>
          obtain ⟨t, q⟩ := tq
          have HU := hide (HD.out.up.next hlt hp hr)
          have C := hide (fun W h => slot_yes b p q s t W h hp hs hr)
          obtain ⟨x, hx⟩ : ∃ x : Nat, (s[p]).toNat = x := ⟨_, rfl⟩
          rw [hx] at HU C
          clear hr hx
          have HYL := hide HD.out.up.1
          have KEEP : Hid (∀ w', wr.grownBy w' (some b) → Dir w w' b V g c s j p ys ∨ True) := fun _ _ => Or.inr trivial
          have hgv := HD.out.gv
          have hgl := HD.out.gl
          have hb2 := HD.out.bl
          clear KEEP
          go_wp2_with fail
          go_region_held3 (fun w' => w'.cell? ⟨V, 1, none⟩ = some (.slice (some ⟨g, 0, none⟩) 4 c)) (first | exact v1 | exact v6 | exact v7) ((go_at_call 71; refine (C.out _ HD.out.at_.drew).mono ?_; rintro e w6 ⟨rfl, A6, G6'⟩; have G6 : wr.grownBy w6 (some b) := grownBy_of_drew G6'; have V6 := HD.out.var.grown G6 (by simp; omega); have v6 := V6.three.2.1; have S6 := HD.out.res.grown G6 (by simp; omega); have O6 : SOwns w6 (w.heap.size + 1) 36 (.slice (some ⟨g, 0, none⟩) (filled j ys).length c) (filled j ys) := by { rw [filled_length HYL.out hj]; exact HD.out.own.grown G6 (fun k hk e => by { have h1 : g = k := by { simpa [Value.ownBlock] using hk }; have h2 : b = k := by { simpa using e }; omega }) }; obtain ⟨g3, c3, e3, k1, k2, k3, k4, k5, -⟩ := O6.at j (by rw [filled_length HYL.out hj]; exact hlt); simp only [Value.slice.injEq, Option.some.injEq, Addr.mk.injEq] at e3; obtain ⟨⟨rfl, -, -⟩, -, rfl⟩ := e3; have O7 := O6.set_both j (by rw [filled_length HYL.out hj]; exact hlt) t (x : Int); rw [filled_set HYL.out hlt, filled_length HYL.out hj] at O7; have V7 := (V6.other (k := j * 2) (show V ≠ g by omega) (.string t)).other (k := j * 2 + 1) (show V ≠ g by omega) (.int .i64 (x : Int)); have v7 := V7.three.2.1; have HD7 : Hid (Dir w ((w6.setCell ⟨g, j * 2, none⟩ (.string t)).setCell ⟨g, j * 2 + 1, none⟩ (.int .i64 (x : Int))) b V g c s (j + 1) q (ys ++ [(t, (x : Int))])) := ⟨(A6.other (show b ≠ g by omega) _).other (show b ≠ g by omega) _, (S6.other (show w.heap.size ≠ g by omega) _).other (show w.heap.size ≠ g by omega) _, V7, O7.1, grownBy_setNew (grownBy_setNew (grownBy_trans HD.out.gro G6) (by omega) _ _) (by omega) _ _, hb2, hgv, hgl, HU.out⟩; clear A6 G6 G6' V6 S6 O6 O7 V7 k4))
          clear v6 v7 k1 k2 k3
          go_wp2
          go_roundw
          case rel => exact ⟨j + 1, q, _, by omega, by go_num, HD7.out⟩
          case measure => simp [intOf]; omega
      · have HQ := hide (HD.out.up.short hlt hp)
        go_wp2_with fail
        refine wp_region_held_drew (S := fun w' => w'.cell? ⟨V, 1, none⟩ = some (.slice (some ⟨g, 0, none⟩) 4 c)) (by kernel_rfl) v1 (fun hHeld => ?_)
        refine wpAnyH_take (i := 0) (oi := { dst := some 12, op := Op.fieldAddr 26 (Operand.tmp 3) 1, type := _, pos := _, after := _, guard := none }) (v := ?_) rfl (by kernel_rfl) (by kernel_rfl) (by kernel_rfl) (fun _ _ _ h => h) (Or.inl ⟨by rfl, ?_⟩) hHeld ?_
        rotate_left
        · intro W hSw; (try dsimp only at hSw); go_simp; (try with_reducible rfl)
        try simp only [Act.put, List.setIfInBounds_toArray, List.set_cons_zero, List.set_cons_succ]
        refine wpAnyH_take (i := 1) (oi := { dst := some 13, op := Op.load 24 (Operand.tmp 12), type := _, pos := _, after := _, guard := none }) (v := ?_) rfl (by kernel_rfl) (by kernel_rfl) (by kernel_rfl) (fun _ _ _ h => h) (Or.inl ⟨by rfl, ?_⟩) hHeld ?_
        rotate_left
        · intro W hSw; (try dsimp only at hSw); go_simp; (try with_reducible rfl)
        try simp only [Act.put, List.setIfInBounds_toArray, List.set_cons_zero, List.set_cons_succ]
        refine wpAnyH_take (i := 2) (oi := { dst := some 14, op := Op.move (Operand.tmp 4), type := _, pos := _, after := _, guard := none }) (v := ?_) rfl (by kernel_rfl) (by kernel_rfl) (by kernel_rfl) (fun _ _ _ h => h) (Or.inl ⟨by rfl, ?_⟩) hHeld ?_
        rotate_left
        · intro W hSw; (try dsimp only at hSw); go_simp; (try with_reducible rfl)
        try simp only [Act.put, List.setIfInBounds_toArray, List.set_cons_zero, List.set_cons_succ]
        refine wpAnyH_take (i := 3) (oi := { dst := some 15, op := Op.move (Operand.tmp 0), type := _, pos := _, after := _, guard := none }) (v := ?_) rfl (by kernel_rfl) (by kernel_rfl) (by kernel_rfl) (fun _ _ _ h => h) (Or.inl ⟨by rfl, ?_⟩) hHeld ?_
        rotate_left
        · intro W hSw; (try dsimp only at hSw); go_simp; (try with_reducible rfl)
        try simp only [Act.put, List.setIfInBounds_toArray, List.set_cons_zero, List.set_cons_succ]
        refine wpAnyH_ready (rs := [4]) (by kernel_rfl) (by simp) ?_
        refine AllReadyH.cons (o := { dst := some 16, op := Op.call { callee := Callee.value (Operand.func 71), args := #[Operand.tmp 15], argTypes := #[80] }, type := _, pos := _, after := _, guard := none }) rfl (fun K hK => ?_) ?_
        · go_simp
          refine (slot_end b p s _ HD.out.at_.drew hp).mono ?_
          rintro e w6 ⟨rfl, G6⟩
          exact ⟨rfl, by rw [dirAns_none HQ.out], grownBy_trans HD.out.gro (grownBy_of_drew G6)⟩
        · exact AllReadyH.nil
    · have hj4 : j = 4 := by omega
      subst hj4
      have HQ := hide HD.out.up.done
      obtain ⟨r0, r1, -⟩ := HD.out.at_.two
      have hbl2 := HD.out.bl
      have hgl := HD.out.gl
      have hgv := HD.out.gv
      by_cases hps : p = s.size
      · have hd : ((p : Int) == (s.size : Int)) = true := by simp [hps]
        obtain ⟨v0, v1, v2, hvl⟩ := HD.out.var.three
        obtain ⟨x0, x1, x2, hxl⟩ := HD.out.res.three
        obtain ⟨f0, f1, f2⟩ := HD.out.res.frz
        have HPS := hide hps
        clear hps
        go_wp2_with fail
        go_region_held3 (fun w' => w'.cell? ⟨b, 0, none⟩ = some (.string s) ∧ w'.cell? ⟨b, 1, none⟩ = some (.int .i64 p)) (first | exact ⟨r0, r1⟩) ((go_at_call 70; (try rw [hd]); refine (want_yes _ _).mono ?_; rintro e w6 ⟨rfl, rfl⟩))
        go_wp2
        refine bodyPost_ret (v := .agg #[.bool true, .slice (some ⟨g, 0, none⟩) 4 c, .string ⟨#[]⟩]) (by simp [results, go_sem, x0, x1, x2]) rfl ⟨?_, ?_⟩
        · rw [dirAns_some HQ.out HPS.out]
          refine ⟨_, rfl, ?_⟩
          have := HD.out.own
          rw [filled_all] at this
          exact (((this.setCell_low (by omega) _).setCell_low (by omega) _).setCell_low (by omega) _).drew.base_le (by omega)
        · exact grownBy_trans (grownBy_setNew (grownBy_setNew (grownBy_setNew HD.out.gro (Nat.le_refl _) _ _) (Nat.le_refl _) _ _) (Nat.le_refl _) _ _) (grownBy_below (Below.refl _ _).drew _)
      · have hd : ((p : Int) == (s.size : Int)) = false := by simp; omega
        have HPS := hide hps
        clear hps
        go_wp2_with fail
        refine wp_region_held_drew (S := fun w' => w'.cell? ⟨b, 0, none⟩ = some (.string s) ∧ w'.cell? ⟨b, 1, none⟩ = some (.int .i64 p)) (by kernel_rfl) ⟨r0, r1⟩ (fun hHeld => ?_)
        refine wpAnyH_take (i := 0) (oi := { dst := some 19, op := Op.move (Operand.tmp 0), type := _, pos := _, after := _, guard := none }) (v := ?_) rfl (by kernel_rfl) (by kernel_rfl) (by kernel_rfl) (fun _ _ _ h => h) (Or.inl ⟨by rfl, ?_⟩) hHeld ?_
        rotate_left
        · intro W hSw; (try dsimp only at hSw); go_simp; (try with_reducible rfl)
        try simp only [Act.put, List.setIfInBounds_toArray, List.set_cons_zero, List.set_cons_succ]
        refine wpAnyH_take (i := 1) (oi := { dst := some 20, op := Op.move (Operand.tmp 0), type := _, pos := _, after := _, guard := none }) (v := ?_) rfl (by kernel_rfl) (by kernel_rfl) (by kernel_rfl) (fun _ _ _ h => h) (Or.inl ⟨by rfl, ?_⟩) hHeld ?_
        rotate_left
        · intro W hSw; (try dsimp only at hSw); go_simp; (try with_reducible rfl)
        try simp only [Act.put, List.setIfInBounds_toArray, List.set_cons_zero, List.set_cons_succ]
        refine wpAnyH_take (i := 2) (oi := { dst := some 21, op := Op.nilCheck (Operand.tmp 20), type := _, pos := _, after := _, guard := none }) (v := ?_) rfl (by kernel_rfl) (by kernel_rfl) (by kernel_rfl) (fun _ _ _ h => h) (Or.inl ⟨by rfl, ?_⟩) hHeld ?_
        rotate_left
        · intro W hSw; (try dsimp only at hSw); go_simp; (try with_reducible rfl)
        try simp only [Act.put, List.setIfInBounds_toArray, List.set_cons_zero, List.set_cons_succ]
        refine wpAnyH_take (i := 3) (oi := { dst := some 22, op := Op.fieldAddr 55 (Operand.tmp 21) 1, type := _, pos := _, after := _, guard := none }) (v := ?_) rfl (by kernel_rfl) (by kernel_rfl) (by kernel_rfl) (fun _ _ _ h => h) (Or.inl ⟨by rfl, ?_⟩) hHeld ?_
        rotate_left
        · intro W hSw; (try dsimp only at hSw); go_simp; (try with_reducible rfl)
        try simp only [Act.put, List.setIfInBounds_toArray, List.set_cons_zero, List.set_cons_succ]
        refine wpAnyH_take (i := 4) (oi := { dst := some 23, op := Op.load 3 (Operand.tmp 22), type := _, pos := _, after := _, guard := none }) (v := ?_) rfl (by kernel_rfl) (by kernel_rfl) (by kernel_rfl) (fun _ _ _ h => h) (Or.inl ⟨by rfl, ?_⟩) hHeld ?_
        rotate_left
        · intro W hSw; (try dsimp only at hSw); go_simp; (try with_reducible rfl)
        try simp only [Act.put, List.setIfInBounds_toArray, List.set_cons_zero, List.set_cons_succ]
        refine wpAnyH_take (i := 5) (oi := { dst := some 24, op := Op.move (Operand.tmp 0), type := _, pos := _, after := _, guard := none }) (v := ?_) rfl (by kernel_rfl) (by kernel_rfl) (by kernel_rfl) (fun _ _ _ h => h) (Or.inl ⟨by rfl, ?_⟩) hHeld ?_
        rotate_left
        · intro W hSw; (try dsimp only at hSw); go_simp; (try with_reducible rfl)
        try simp only [Act.put, List.setIfInBounds_toArray, List.set_cons_zero, List.set_cons_succ]
        refine wpAnyH_take (i := 6) (oi := { dst := some 25, op := Op.nilCheck (Operand.tmp 24), type := _, pos := _, after := _, guard := none }) (v := ?_) rfl (by kernel_rfl) (by kernel_rfl) (by kernel_rfl) (fun _ _ _ h => h) (Or.inl ⟨by rfl, ?_⟩) hHeld ?_
        rotate_left
        · intro W hSw; (try dsimp only at hSw); go_simp; (try with_reducible rfl)
        try simp only [Act.put, List.setIfInBounds_toArray, List.set_cons_zero, List.set_cons_succ]
        refine wpAnyH_take (i := 7) (oi := { dst := some 26, op := Op.fieldAddr 55 (Operand.tmp 25) 0, type := _, pos := _, after := _, guard := none }) (v := ?_) rfl (by kernel_rfl) (by kernel_rfl) (by kernel_rfl) (fun _ _ _ h => h) (Or.inl ⟨by rfl, ?_⟩) hHeld ?_
        rotate_left
        · intro W hSw; (try dsimp only at hSw); go_simp; (try with_reducible rfl)
        try simp only [Act.put, List.setIfInBounds_toArray, List.set_cons_zero, List.set_cons_succ]
        refine wpAnyH_take (i := 8) (oi := { dst := some 27, op := Op.load 9 (Operand.tmp 26), type := _, pos := _, after := _, guard := none }) (v := ?_) rfl (by kernel_rfl) (by kernel_rfl) (by kernel_rfl) (fun _ _ _ h => h) (Or.inl ⟨by rfl, ?_⟩) hHeld ?_
        rotate_left
        · intro W hSw; (try dsimp only at hSw); go_simp; (try with_reducible rfl)
        try simp only [Act.put, List.setIfInBounds_toArray, List.set_cons_zero, List.set_cons_succ]
        refine wpAnyH_take (i := 9) (oi := { dst := some 28, op := Op.call { callee := Callee.builtin Builtin.len, args := #[Operand.tmp 27], argTypes := #[9] }, type := _, pos := _, after := _, guard := none }) (v := ?_) rfl (by kernel_rfl) (by kernel_rfl) (by kernel_rfl) (fun _ _ _ h => h) (Or.inl ⟨by rfl, ?_⟩) hHeld ?_
        rotate_left
        · intro W hSw; (try dsimp only at hSw); go_simp; (try with_reducible rfl)
        try simp only [Act.put, List.setIfInBounds_toArray, List.set_cons_zero, List.set_cons_succ]
        refine wpAnyH_take (i := 10) (oi := { dst := some 29, op := Op.binOp BinOp.eql 3 (Operand.tmp 23) (Operand.tmp 28) 3, type := _, pos := _, after := _, guard := none }) (v := ?_) rfl (by kernel_rfl) (by kernel_rfl) (by kernel_rfl) (fun _ _ _ h => h) (Or.inl ⟨by rfl, ?_⟩) hHeld ?_
        rotate_left
        · intro W hSw; (try dsimp only at hSw); go_simp; (try with_reducible rfl)
        try simp only [Act.put, List.setIfInBounds_toArray, List.set_cons_zero, List.set_cons_succ]
        refine wpAnyH_ready (rs := [11]) (by kernel_rfl) (by simp) ?_
        refine AllReadyH.cons (o := { dst := some 30, op := Op.call { callee := Callee.value (Operand.func 70), args := #[Operand.tmp 19, Operand.tmp 29], argTypes := #[80, 4] }, type := _, pos := _, after := _, guard := none }) rfl (fun K hK => ?_) ?_
        · go_simp
          refine (want_no _ _).mono ?_
          rintro e w6 ⟨rfl, rfl⟩
          exact ⟨rfl, by rw [dirAns_more HQ.out HPS.out], grownBy_trans HD.out.gro (grownBy_below (Below.refl _ _).drew _)⟩
        · exact AllReadyH.nil
end Go.Proofs.Ytfffiboggpjjkaa
