/- (impl.blockReader).block by its contract. -/
import Derived.Test.YtfffiboggpjjkaaRdD
namespace Go.Proofs.Ytfffiboggpjjkaa
open Go.RowKit Kit
/-- What is answered: the block, or the panic. -/
def blockAns (s : ByteArray) (base : Nat) (e : Ending) (w' : World) : Prop := match readR s with
  | some (d, xs, t) => ∃ v, e = .returned (.agg #[.bool d, v, .string t]) ∧ SOwns w' base 36 v xs
  | none => e = .panicked stop
theorem blockAns_none {s : ByteArray} (h : readR s = none) (base : Nat) (e : Ending) (w' : World) : blockAns s base e w' = (e = .panicked stop) := by simp [blockAns, h]
theorem blockAns_some {s : ByteArray} {d : Bool} {xs : List Sl} {t : ByteArray} (h : readR s = some (d, xs, t)) (base : Nat) (e : Ending) (w' : World) : blockAns s base e w' = (∃ v, e = .returned (.agg #[.bool d, v, .string t]) ∧ SOwns w' base 36 v xs) := by simp [blockAns, h]
theorem oneByte_first (b : Nat) (s : ByteArray) (w : World) (hat : AtC w b 55 #[.string s, .int .i64 0]) (hp : 0 < s.size) (hs : s.size ≤ 1048576) :
    Calls Try.prog 67 #[.pointer (some ⟨b, 0, none⟩)] w fun e w' => e = .returned (.int .u8 ((s[0]).toNat : Int)) ∧ AtC w' b 55 #[.string s, .int .i64 1] ∧ w.grownBy w' (some b) := oneByte_yes b 0 s w hat hp hs
set_option maxHeartbeats 1600000 in
theorem block_empty (b : Nat) (s : ByteArray) (w : World) (hat : AtC w b 55 #[.string s, .int .i64 0]) (h0 : s.size = 0) :
    Calls Try.prog 58 #[.pointer (some ⟨b, 0, none⟩)] w fun e w' => blockAns s w.heap.size e w' ∧ w.grownBy w' (some b) := by
  have HAT := hide hat
  clear hat
  go_enter Try.func58, Try.ntmps58
  go_wp2_with fail
  refine (oneByte_no b 0 s _ ((HAT.out.alloc _).alloc _) (by omega)).mono ?_
  rintro e w1 ⟨rfl, B1⟩
  exact ⟨rfl, by rw [blockAns_none (readR_empty h0)], grownBy_below ((((Below.refl _ w).alloc (Nat.le_refl _) _).alloc (by simp) _).trans (B1.mono (by simp; omega))) _⟩
/-- What holds ahead of the test: the block read lies in V. -/
structure Blk (w wr : World) (b V : Nat) (d : Bool) (v : Value) (t : ByteArray) (xs : List Sl) : Prop where
  res : AtC wr w.heap.size 26 #[.bool false, .slice none 0 0, .string ⟨#[]⟩]
  var : AtC wr V 26 #[.bool d, v, .string t]
  own : SOwns wr (w.heap.size + 1) 36 v xs
  gro : w.grownBy wr (some b)
  gv : w.heap.size < V
set_option maxHeartbeats 3200000 in
theorem block_dir (b : Nat) (s : ByteArray) (w : World) (hat : AtC w b 55 #[.string s, .int .i64 0]) (hs : s.size ≤ 1048576) (h0 : 0 < s.size) (hd : s[0] = 100) :
    Calls Try.prog 58 #[.pointer (some ⟨b, 0, none⟩)] w fun e w' => blockAns s w.heap.size e w' ∧ w.grownBy w' (some b) := by
  have C1 := hide (fun W h => oneByte_first b s W h h0 hs)
  have hx : (s[0]).toNat = 100 := by rw [hd]; rfl
  rw [hx] at C1
  have C2 := hide (fun W h => dir_any b s W h hs h0)
  have HAT := hide hat
  have hbl := hat.lt
  clear hat hx
  go_enter Try.func58, Try.ntmps58
  go_wp2_with fail
  refine (C1.out _ ((HAT.out.alloc _).alloc _)).mono ?_
  rintro e w1 ⟨rfl, A1, G1⟩
  have R1 : AtC w1 w.heap.size 26 #[.bool false, .slice none 0 0, .string ⟨#[]⟩] := ((AtC.new w 26 _).alloc _).grown G1 (by simp; omega)
  have V1 : AtC w1 (w.heap.size + 1) 26 #[.bool false, .slice none 0 0, .string ⟨#[]⟩] := by
    have := (AtC.new (w.alloc (.cells #[.bool false, .slice none 0 0, .string ⟨#[]⟩] 26)) 26 #[.bool false, .slice none 0 0, .string ⟨#[]⟩]).grown G1 (by simp; omega)
    simpa using this
  have G2 : w.grownBy w1 (some b) := grownBy_trans (grownBy_below (((Below.refl _ w).alloc (Nat.le_refl _) _).alloc (by simp) _) _) G1
  have hsz1 : w.heap.size + 1 < w1.heap.size := V1.lt
  have HA1 := hide A1
  have HR1 := hide R1
  have HV1 := hide V1
  have HG2 := hide G2
  clear A1 R1 V1 G1 G2
  go_wp2_with fail
  refine (C2.out _ HA1.out).mono ?_
  rintro e w2 ⟨hans, G3⟩
  have HG3 := hide (grownBy_trans HG2.out G3)
  cases hk : tk s 4 1 with
  | none =>
    rw [dirAns_none hk] at hans
    subst hans
    exact ⟨rfl, by rw [blockAns_none (readR_dirn h0 hd hk)], HG3.out⟩
  | some xp =>
    obtain ⟨xs, p⟩ := xp
    by_cases hp : p = s.size
    · rw [dirAns_some hk hp] at hans
      obtain ⟨v, rfl, O2⟩ := hans
      obtain ⟨a2, c2, rfl, -⟩ := O2.form
      have R2 := HR1.out.grown G3 (by simp; omega)
      have V2 := HV1.out.grown G3 (by simp; omega)
      obtain ⟨q0, q1, q2, ql⟩ := V2.three
      obtain ⟨f0, f1, f2⟩ := V2.frz
      have hne : ¬ w.heap.size + 1 = w.heap.size := by omega
      have hov : (Value.slice a2 xs.length c2).ownBlock ≠ some (w.heap.size + 1) := fun e => by have := (O2.lt _ e).1; omega
      have BL : Blk w (((w2.setCell ⟨w.heap.size + 1, 0, none⟩ (.bool true)).setCell ⟨w.heap.size + 1, 1, none⟩ (.slice a2 xs.length c2)).setCell ⟨w.heap.size + 1, 2, none⟩ (.string ⟨#[]⟩)) b (w.heap.size + 1) true (.slice a2 xs.length c2) ⟨#[]⟩ xs := by
        refine ⟨((R2.other (by omega) _).other (by omega) _).other (by omega) _, ((V2.set 0 _).set 1 _).set 2 _, (((O2.setCell_other hov _).setCell_other hov _).setCell_other hov _).base_le (by omega), ?_, by omega⟩
        exact grownBy_setNew (grownBy_setNew (grownBy_setNew HG3.out (by omega) _ _) (by omega) _ _) (by omega) _ _
      have HBL := hide BL
      have HXS : Hid (readR s = if slotsOk xs = true then some (true, xs, ⟨#[]⟩) else none) := by
        show _ = _
        rw [readR_dir h0 hd hk]
        simp [hp]
      clear R2 V2 BL O2 hov G3
      cases hok : slotsOk xs with
      | false =>
        have C3 := hide (fun v W h => implOk_any true v ⟨#[]⟩ xs W h)
        rw [blockOk_dir xs ⟨#[]⟩ rfl, hok] at C3
        have HN := hide (show readR s = none by have := HXS.out; rw [hok] at this; simpa using this)
        go_wp2_with (first | (go_at_call 16; refine (C3.out _ _ HBL.out.own.rsl).mono ?_; rintro e w3 ⟨rfl, B3⟩) | (go_at_call 70; refine (want_no _ _).mono ?_; rintro e w4 ⟨rfl, rfl⟩))
        exact ⟨rfl, by rw [blockAns_none HN.out], grownBy_trans HBL.out.gro (grownBy_below B3 _)⟩
      | true =>
        have C3 := hide (fun v W h => implOk_any true v ⟨#[]⟩ xs W h)
        rw [blockOk_dir xs ⟨#[]⟩ rfl, hok] at C3
        have HN := hide (show readR s = some (true, xs, ⟨#[]⟩) by have := HXS.out; rw [hok] at this; simpa using this)
        go_wp2_with (first | (go_at_call 16; refine (C3.out _ _ HBL.out.own.rsl).mono ?_; rintro e w3 ⟨rfl, B3⟩; obtain ⟨y0, y1, y2, yl⟩ := (HBL.out.var.over B3).three; obtain ⟨x0, x1, x2, xl⟩ := (HBL.out.res.over B3).three; obtain ⟨g0, g1, g2⟩ := (HBL.out.res.over B3).frz; have HO3 := hide (HBL.out.own.below B3 (Nat.le_refl _)); have HG5 := hide (grownBy_trans HBL.out.gro (grownBy_below B3 _)); clear B3) | (go_at_call 70; refine (want_yes _ _).mono ?_; rintro e w3 ⟨rfl, rfl⟩))
        refine bodyPost_ret (v := .agg #[.bool true, .slice a2 xs.length c2, .string ⟨#[]⟩]) (by simp [results, go_sem, x0, x1, x2]) rfl ⟨?_, ?_⟩
        · rw [blockAns_some HN.out]
          exact ⟨_, rfl, (((HO3.out.setCell_low (by omega) _).setCell_low (by omega) _).setCell_low (by omega) _).base_le (by omega)⟩
        · exact grownBy_setNew (grownBy_setNew (grownBy_setNew HG5.out (Nat.le_refl _) _ _) (Nat.le_refl _) _ _) (Nat.le_refl _) _ _
    · rw [dirAns_more hk hp] at hans
      subst hans
      exact ⟨rfl, by rw [blockAns_none (by rw [readR_dir h0 hd hk]; simp [hp])], HG3.out⟩
set_option maxHeartbeats 3200000 in
theorem block_text (b : Nat) (s : ByteArray) (w : World) (hat : AtC w b 55 #[.string s, .int .i64 0]) (hs : s.size ≤ 1048576) (h0 : 0 < s.size) (hd : s[0] = 116) :
    Calls Try.prog 58 #[.pointer (some ⟨b, 0, none⟩)] w fun e w' => blockAns s w.heap.size e w' ∧ w.grownBy w' (some b) := by
  have C1 := hide (fun W h => oneByte_first b s W h h0 hs)
  have hx : (s[0]).toNat = 116 := by rw [hd]; rfl
  rw [hx] at C1
  have HAT := hide hat
  have hbl := hat.lt
  have HXS := hide (show readR s = if s.size ≤ 17 then some (false, [], s.extract 1 s.size) else none by rw [readR_text h0 (by rw [hd]; decide)]; simp [hd])
  have hz : (s.extract 1 s.size).size = s.size - 1 := by rw [ByteArray.size_extract]; omega
  have HZ := hide hz
  have hi0 : (1 : Int) ≤ (s.size : Int) := by omega
  clear hat hx hz
  go_enter Try.func58, Try.ntmps58
  go_wp2_with fail
  refine (C1.out _ ((HAT.out.alloc _).alloc _)).mono ?_
  rintro e w1 ⟨rfl, A1, G1⟩
  have R1 : AtC w1 w.heap.size 26 #[.bool false, .slice none 0 0, .string ⟨#[]⟩] := ((AtC.new w 26 _).alloc _).grown G1 (by simp; omega)
  have V1 : AtC w1 (w.heap.size + 1) 26 #[.bool false, .slice none 0 0, .string ⟨#[]⟩] := by
    have := (AtC.new (w.alloc (.cells #[.bool false, .slice none 0 0, .string ⟨#[]⟩] 26)) 26 #[.bool false, .slice none 0 0, .string ⟨#[]⟩]).grown G1 (by simp; omega)
    simpa using this
  have G2 : w.grownBy w1 (some b) := grownBy_trans (grownBy_below (((Below.refl _ w).alloc (Nat.le_refl _) _).alloc (by simp) _) _) G1
  have hsz1 : w.heap.size + 1 < w1.heap.size := V1.lt
  obtain ⟨c0, c1, hlt⟩ := A1.two
  have HA1 := hide A1
  have HR1 := hide R1
  have HV1 := hide V1
  have HG2 := hide G2
  clear A1 R1 V1 G1 G2
  go_wp2_with fail
  go_region_held3 (fun w' => w'.cell? ⟨b, 0, none⟩ = some (.string s) ∧ w'.cell? ⟨b, 1, none⟩ = some (.int .i64 1)) (first | exact ⟨c0, c1⟩ | exact a6 | exact a7) ((go_at_call 69; refine (clone_any _ _ (by rw [HZ.out]; omega)).mono ?_; rintro e w6 ⟨rfl, B6'⟩; have B6 := of_drew B6'; have a6 := And.intro (HA1.out.over B6).two.1 (HA1.out.over B6).two.2.1; have a7 := And.intro (((HA1.out.over B6).other (k := 2) (show b ≠ w.heap.size + 1 by omega) (.string (s.extract 1 s.size))).two.1) (((HA1.out.over B6).other (k := 2) (show b ≠ w.heap.size + 1 by omega) (.string (s.extract 1 s.size))).two.2.1); obtain ⟨q0, q1, q2, ql⟩ := (HV1.out.over B6).three; obtain ⟨f0, f1, f2⟩ := (HV1.out.over B6).frz; have HBL : Hid (Blk w (w6.setCell ⟨w.heap.size + 1, 2, none⟩ (.string (s.extract 1 s.size))) b (w.heap.size + 1) false (.slice none 0 0) (s.extract 1 s.size) []) := ⟨(HR1.out.over B6).other (by omega) _, (HV1.out.over B6).set 2 _, SOwns.nil _ _ _, grownBy_setNew (grownBy_trans HG2.out (grownBy_below B6 _)) (by omega) _ _, by omega⟩; clear B6 B6'))
  obtain ⟨t, ht⟩ : ∃ t, s.extract 1 s.size = t := ⟨_, rfl⟩
  have hwx := HXS
  rw [ht] at HBL hwx HZ ⊢
  have HTT := hide ht
  have C3 := hide (fun W h => implOk_any false (.slice none 0 0) t [] W h)
  rw [blockOk_text, HZ.out] at C3
  clear a6 a7 ht q0 q1 f0 f1 f2 c0 c1
  by_cases h17 : s.size ≤ 17
  · have HN := hide (show readR s = some (false, [], t) by have := hwx.out; rw [if_pos h17] at this; exact this)
    have e1 : decide (([] : List Sl).length = 0 ∧ s.size - 1 ≤ 16) = true := decide_eq_true ⟨rfl, by omega⟩
    rw [e1] at C3
    obtain ⟨y0, y1, y2, yl⟩ := HBL.out.var.three
    clear e1 hwx q2
    go_wp2_with (first | (go_at_call 16; refine (C3.out _ HBL.out.own.rsl).mono ?_; rintro e w3 ⟨rfl, B3⟩; obtain ⟨y0, y1, y2, yl⟩ := (HBL.out.var.over B3).three; obtain ⟨x0, x1, x2, xl⟩ := (HBL.out.res.over B3).three; obtain ⟨g0, g1, g2⟩ := (HBL.out.res.over B3).frz; have HG5 := hide (grownBy_trans HBL.out.gro (grownBy_below B3 _)); clear B3) | (go_at_call 70; refine (want_yes _ _).mono ?_; rintro e w3 ⟨rfl, rfl⟩))
    refine bodyPost_ret (v := .agg #[.bool false, .slice none 0 0, .string t]) (by simp [results, go_sem, x0, x1, x2]) rfl ⟨?_, ?_⟩
    · rw [blockAns_some HN.out]
      exact ⟨_, rfl, SOwns.nil _ _ _⟩
    · exact grownBy_setNew (grownBy_setNew (grownBy_setNew HG5.out (Nat.le_refl _) _ _) (Nat.le_refl _) _ _) (Nat.le_refl _) _ _
  · have HN := hide (show readR s = none by have := hwx.out; rw [if_neg h17] at this; exact this)
    have e1 : decide (([] : List Sl).length = 0 ∧ s.size - 1 ≤ 16) = false := decide_eq_false (by omega)
    rw [e1] at C3
    obtain ⟨y0, y1, y2, yl⟩ := HBL.out.var.three
    clear e1 hwx q2
    go_wp2_with (first | (go_at_call 16; refine (C3.out _ HBL.out.own.rsl).mono ?_; rintro e w3 ⟨rfl, B3⟩) | (go_at_call 70; refine (want_no _ _).mono ?_; rintro e w4 ⟨rfl, rfl⟩))
    exact ⟨rfl, by rw [blockAns_none HN.out], grownBy_trans HBL.out.gro (grownBy_below B3 _)⟩
set_option maxHeartbeats 1600000 in
theorem block_other (b : Nat) (s : ByteArray) (w : World) (hat : AtC w b 55 #[.string s, .int .i64 0]) (hs : s.size ≤ 1048576) (h0 : 0 < s.size) (hd : s[0] ≠ 100) (ht : s[0] ≠ 116) :
    Calls Try.prog 58 #[.pointer (some ⟨b, 0, none⟩)] w fun e w' => blockAns s w.heap.size e w' ∧ w.grownBy w' (some b) := by
  have C1 := hide (fun W h => oneByte_first b s W h h0 hs)
  obtain ⟨x, hx⟩ : ∃ x : Nat, (s[0]).toNat = x := ⟨_, rfl⟩
  have x1 : ((x : Int) == 100) = false := by
    have : x ≠ 100 := fun e => hd (UInt8.toNat_inj.1 (by rw [hx, e]; rfl))
    simp; omega
  have x2 : ((x : Int) == 116) = false := by
    have : x ≠ 116 := fun e => ht (UInt8.toNat_inj.1 (by rw [hx, e]; rfl))
    simp; omega
  rw [hx] at C1
  have HN := hide (show readR s = none by rw [readR_text h0 hd]; simp [ht])
  have HAT := hide hat
  clear hat hx
  go_enter Try.func58, Try.ntmps58
  go_wp2_with fail
  refine (C1.out _ ((HAT.out.alloc _).alloc _)).mono ?_
  rintro e w1 ⟨rfl, A1, G1⟩
  have HG2 := hide (grownBy_trans (grownBy_below (((Below.refl _ w).alloc (Nat.le_refl _) (.cells #[.bool false, .slice none 0 0, .string ⟨#[]⟩] 26)).alloc (by simp) (.cells #[.bool false, .slice none 0 0, .string ⟨#[]⟩] 26)) _) G1)
  clear A1 G1
  go_wp2_with (go_at_call 70; refine (want_no _ _).mono ?_; rintro e w4 ⟨rfl, rfl⟩)
  exact ⟨rfl, by rw [blockAns_none HN.out], HG2.out⟩
theorem block_any (b : Nat) (s : ByteArray) (w : World) (hat : AtC w b 55 #[.string s, .int .i64 0]) (hs : s.size ≤ 1048576) :
    Calls Try.prog 58 #[.pointer (some ⟨b, 0, none⟩)] w fun e w' => blockAns s w.heap.size e w' ∧ w.grownBy w' (some b) := by
  by_cases h0 : 0 < s.size
  · by_cases hd : s[0] = 100
    · exact block_dir b s w hat hs h0 hd
    · by_cases ht : s[0] = 116
      · exact block_text b s w hat hs h0 ht
      · exact block_other b s w hat hs h0 hd ht
  · exact block_empty b s w hat (by omega)
end Go.Proofs.Ytfffiboggpjjkaa
