/- spec.ReadBits by its contract. -/
import Derived.Test.YtakkdfbcipbbjaaRd
namespace Go.Proofs.Ytakkdfbcipbbjaa.Kit
open Go.RowKit
/-- The flag k of a text. -/
def flagAt (s : ByteArray) (k : Nat) : Bool := bitN (s.data.toList.getD (k / 8) 0).toNat (k % 8)
/-- What is read of the blocks and of the inodes behind i rounds. -/
def pX (s : ByteArray) (i : Nat) : List Bool := (List.range (min i 16)).map (flagAt s)
def pY (s : ByteArray) (i : Nat) : List Bool := (List.range (i - 16)).map fun k => flagAt s (k + 16)
theorem pX_length (s : ByteArray) (i : Nat) : (pX s i).length = min i 16 := by simp [pX]
theorem pY_length (s : ByteArray) (i : Nat) : (pY s i).length = i - 16 := by simp [pY]
theorem pX_lo (s : ByteArray) (i : Nat) (h : i < 16) : pX s (i + 1) = pX s i ++ [flagAt s i] := by
  unfold pX
  rw [Nat.min_eq_left (by omega), Nat.min_eq_left (by omega), List.range_succ]
  simp
theorem pY_lo (s : ByteArray) (i : Nat) (h : i < 16) : pY s (i + 1) = pY s i := by
  unfold pY
  rw [show i + 1 - 16 = 0 by omega, show i - 16 = 0 by omega]
theorem pX_hi (s : ByteArray) (i : Nat) (h : ¬ i < 16) : pX s (i + 1) = pX s i := by
  unfold pX
  rw [Nat.min_eq_right (by omega), Nat.min_eq_right (by omega)]
theorem pY_hi (s : ByteArray) (i : Nat) (h : ¬ i < 16) : pY s (i + 1) = pY s i ++ [flagAt s i] := by
  unfold pY
  rw [show i + 1 - 16 = (i - 16) + 1 by omega, List.range_succ]
  simp
  congr 1
  omega
theorem app_first {wr w2 : World} {base : Nat} {u v u' : Value} {xs ys : List Bool} {b : Bool} (h : Two wr base u v xs ys) (R1 : ROwns w2 base 4 u' (fc xs ++ [.bool b])) (R3 : Keeps wr w2 u u') : Two w2 base u' v (xs ++ [b]) ys :=
  ⟨by rw [fc_append]; exact R1, h.b.of_heap fun k hk => (R3 k (h.b.lt k hk).2 (fun e => h.ne k e hk)).2, fun k e1 e2 => (R3 k (h.b.lt k e2).2 (fun e => h.ne k e e2)).1 e1⟩
theorem app_second {wr w2 : World} {base : Nat} {u v v' : Value} {xs ys : List Bool} {b : Bool} (h : Two wr base u v xs ys) (R1 : ROwns w2 base 4 v' (fc ys ++ [.bool b])) (R3 : Keeps wr w2 v v') : Two w2 base u v' xs (ys ++ [b]) :=
  ⟨h.a.of_heap fun k hk => (R3 k (h.a.lt k hk).2 (fun e => h.ne k hk e)).2, by rw [fc_append]; exact R1, fun k e1 e2 => (R3 k (h.a.lt k e1).2 (fun e => h.ne k e1 e)).1 e2⟩
/-- A byte halved j times. -/
def dv (c j : Nat) : Int := ((c / 2 ^ j : Nat) : Int)
theorem dv_zero (c : Nat) : dv c 0 = (c : Int) := by simp [dv]
theorem dv_succ (c j : Nat) : dv c (j + 1) = dv c j / 2 := by
  unfold dv
  rw [Nat.pow_succ, ← Nat.div_div_eq_div_mul]
  omega
theorem dv_le (c j : Nat) (h : c < 256) : 0 ≤ dv c j ∧ dv c j ≤ 255 := by
  have : c / 2 ^ j ≤ c := Nat.div_le_self _ _
  unfold dv
  generalize c / 2 ^ j = p at *
  omega
end Go.Proofs.Ytakkdfbcipbbjaa.Kit
namespace Go.Proofs.Ytakkdfbcipbbjaa
open Go.RowKit Kit
theorem bytes3 (s : ByteArray) (h : s.size = 3) : ∃ a b c : UInt8, s = ⟨#[a, b, c]⟩ := by
  obtain ⟨⟨l⟩⟩ := s
  have h' : l.length = 3 := h
  match l, h' with
  | [a, b, c], _ => exact ⟨a, b, c, rfl⟩
theorem pX_all (s : ByteArray) (h : s.size = 3) : pX s 24 = readX s := by
  obtain ⟨a, b, c, rfl⟩ := bytes3 s h
  have e : (ByteArray.extract ⟨#[a, b, c]⟩ 0 2).data.toList = [a, b] := by simp [ByteArray.data_extract]
  rw [readX, e, flagsL_two]
  have e1 : List.range 16 = [0, 1, 2, 3, 4, 5, 6, 7, 8, 9, 10, 11, 12, 13, 14, 15] := rfl
  have e2 : List.range 8 = [0, 1, 2, 3, 4, 5, 6, 7] := rfl
  simp [pX, bitsN, e1, e2, flagAt]
theorem pY_all (s : ByteArray) (h : s.size = 3) : pY s 24 = readY s := by
  obtain ⟨a, b, c, rfl⟩ := bytes3 s h
  have e : (ByteArray.extract ⟨#[a, b, c]⟩ 2 3).data.toList = [c] := by simp [ByteArray.data_extract]
  rw [readY, e, flagsL_one]
  have e2 : List.range 8 = [0, 1, 2, 3, 4, 5, 6, 7] := rfl
  simp [pY, bitsN, e2, flagAt]
theorem flagAt_int (s : ByteArray) (i : Nat) (h : i / 8 < s.size) : flagAt s i = ((((s[i / 8]).toNat / 2 ^ (i % 8) % 2 : Nat) : Int) == 1) := by
  rw [← bitN_int, flagAt]
  congr 1
  simp [h]
  rfl

set_option maxHeartbeats 1600000 in
theorem specRead_len (s : ByteArray) (w : World) (h : s.size ≠ 3) (_h1 : s.size ≤ 1048576) :
    Calls Try.prog 26 #[.string s] w fun e w' => e = .returned (.tuple #[.agg #[.slice none 0 0, .slice none 0 0], .bool false]) ∧ Below w.heap.size w w' := by
  have h2 : ((s.size : Int) != 3) = true := by simp; omega
  go_enter Try.func26, Try.ntmps26
  go_wp2
  refine bodyPost_ret (v := .tuple #[.agg #[.slice none 0 0, .slice none 0 0], .bool false]) (by simp [results, go_sem]) rfl ⟨rfl, by go_grown⟩

theorem flag_dv (s : ByteArray) (i : Nat) (h : i / 8 < s.size) : flagAt s i = (dv (s[i / 8]).toNat (i % 8) % 2 == 1) := by
  rw [flagAt_int s i h]
  unfold dv
  generalize (s[i / 8]).toNat / 2 ^ (i % 8) = p
  rw [show ((p % 2 : Nat) : Int) = (p : Int) % 2 by omega]
/-- What is known while bits are read: the result's block, the variable's, the slices. -/
structure Rs (w wr : World) (u v : Value) (xs ys : List Bool) : Prop where
  res : AtP 26 wr w.heap.size (.slice none 0 0) (.slice none 0 0)
  var : AtP 26 wr (w.heap.size + 1) u v
  two : Two wr (w.heap.size + 1 + 1) u v xs ys
  bel : Below w.heap.size w wr
theorem Rs.first {w wr w2 : World} {u v u' : Value} {xs ys : List Bool} {b : Bool} (h : Rs w wr u v xs ys) (R1 : ROwns w2 (w.heap.size + 1 + 1) 4 u' (fc xs ++ [.bool b])) (R2 : Below (w.heap.size + 1 + 1) wr w2) (R3 : Keeps wr w2 u u') :
    Rs w (w2.setCell ⟨w.heap.size + 1, 0, none⟩ u') u' v (xs ++ [b]) ys ∧ w2.cell? ⟨w.heap.size + 1, 0, none⟩ = some u ∧ w2.frozen? ⟨w.heap.size + 1, 0, none⟩ = false ∧ w.heap.size + 1 < w2.heap.size := by
  have k1 := h.var.below R2 (by omega)
  exact ⟨⟨(h.res.below R2 (by omega)).set_other (by omega) _, k1.set0 u', (app_first h.two R1 R3).set_other (by omega) _, (h.bel.trans (R2.mono (by omega))).setCell (by show w.heap.size ≤ w.heap.size + 1; omega) _⟩, k1.cells.1, k1.frozen.1, k1.lt⟩
theorem Rs.second {w wr w2 : World} {u v v' : Value} {xs ys : List Bool} {b : Bool} (h : Rs w wr u v xs ys) (R1 : ROwns w2 (w.heap.size + 1 + 1) 4 v' (fc ys ++ [.bool b])) (R2 : Below (w.heap.size + 1 + 1) wr w2) (R3 : Keeps wr w2 v v') :
    Rs w (w2.setCell ⟨w.heap.size + 1, 1, none⟩ v') u v' xs (ys ++ [b]) ∧ w2.cell? ⟨w.heap.size + 1, 1, none⟩ = some v ∧ w2.frozen? ⟨w.heap.size + 1, 1, none⟩ = false ∧ w.heap.size + 1 < w2.heap.size := by
  have k1 := h.var.below R2 (by omega)
  exact ⟨⟨(h.res.below R2 (by omega)).set_other (by omega) _, k1.set1 v', (app_second h.two R1 R3).set_other (by omega) _, (h.bel.trans (R2.mono (by omega))).setCell (by show w.heap.size ≤ w.heap.size + 1; omega) _⟩, k1.cells.2, k1.frozen.2, k1.lt⟩

set_option maxRecDepth 100000 in
set_option maxHeartbeats 3200000 in
theorem specRead_three (s : ByteArray) (w : World) (hs : s.size = 3) :
    Calls Try.prog 26 #[.string s] w fun e w' => ∃ u v, e = .returned (.tuple #[.agg #[u, v], .bool true]) ∧ Two w' w.heap.size u v (readX s) (readY s) ∧ Below w.heap.size w w' := by
  have HA := hide (And.intro (pX_all s hs) (pY_all s hs))
  have h3 : (s.size : Int) = 3 := by omega
  have R0 : Rs w ((w.alloc (Obj.cells #[.slice none 0 0, .slice none 0 0] 26)).alloc (Obj.cells #[.slice none 0 0, .slice none 0 0] 26)) (.slice none 0 0) (.slice none 0 0) (pX s 0) (pY s 0) := by
    refine ⟨(AtP.new 26 w _ _).alloc _, ?_, Two.nil _ _, ((Below.refl _ w).alloc (Nat.le_refl _) _).alloc (by simp) _⟩
    have := AtP.new 26 (w.alloc (Obj.cells #[.slice none 0 0, .slice none 0 0] 26)) (.slice none 0 0) (.slice none 0 0)
    rwa [World.size_alloc] at this
  have HR0 := hide R0
  clear R0
  go_enter Try.func26, Try.ntmps26
  go_wp2
  go_loopw [5] (fun x wr => ∃ (i : Nat) (u v : Value), i ≤ 24 ∧ x = .int .i64 i ∧ Rs w wr u v (pX s i) (pY s i)) (fun x _ => 24 - (intOf x).toNat)
  case atStart => exact ⟨0, _, _, by omega, rfl, HR0.out⟩
  case round =>
    obtain ⟨i, u, v, hi, rfl, hR⟩ := hrel
    by_cases hlt : i < 24
    · have hd0 : i / 8 < s.size := by omega
      have hfl := flag_dv s i hd0
      obtain ⟨t, ht⟩ : ∃ t, flagAt s i = t := ⟨_, rfl⟩
      obtain ⟨d, hd⟩ : ∃ d, i / 8 = d := ⟨_, rfl⟩
      obtain ⟨r, hr⟩ : ∃ r, i % 8 = r := ⟨_, rfl⟩
      have d1 : (i : Int) / 8 = (d : Int) := by omega
      have r1 : (i : Int) % 8 = (r : Int) := by omega
      have r2 : r < 8 := by omega
      have hds : d < s.size := by omega
      obtain ⟨c, hc⟩ : ∃ c : Nat, (s[d]).toNat = c := ⟨_, rfl⟩
      have hfl' : (dv c r % 2 == 1) = t := by rw [← ht, hfl]; subst hd hr hc; rfl
      have c1 : c < 256 := by have := (s[d]).toNat_lt; omega
      have d2 : (0 : Int) ≤ (d : Int) := by omega
      have d3 : (d : Int) < 3 := by omega
      have HT := hide ht
      have HR := hide hR
      have HI := hide (And.intro hlt (And.intro hd hr))
      clear ht hfl hd hr hd0 hR HR0
      go_wp2
      go_loopw [6, 7] (fun x y w' => ∃ j : Nat, j ≤ r ∧ y = .int .i64 j ∧ x = .int .i64 (dv c j) ∧ wr = w') (fun _ y _ => r - (intOf y).toNat)
      case atStart => exact ⟨0, Nat.zero_le _, rfl, by rw [dv_zero], rfl⟩
      case round =>
        obtain ⟨j, hj, rfl, rfl, rfl⟩ := hrel
        obtain ⟨p0, p1⟩ := dv_le c j c1
        by_cases hjl : j < r
        · have E1 := hide (dv_succ c j)
          have j0 : (0 : Int) ≤ (j : Int) := by omega
          have j1 : (j : Int) < (r : Int) := by omega
          go_wp2
          go_roundw
          case rel => exact ⟨j + 1, by omega, by go_num, by rw [E1.out], trivial⟩
          case measure => simp [intOf]; omega
        · obtain rfl : j = r := by omega
          clear hj hjl
          obtain ⟨a1, e1, a2, e2, hu, hv⟩ := HR.out.two.form
          subst hu hv
          obtain ⟨v0, v1⟩ := HR.out.var.cells
          have m1 := HR.out.var.lt
          by_cases h16 : i < 16
          · have HP := hide (And.intro (pX_lo s i h16) (pY_lo s i h16))
            rw [HT.out] at HP
            have lp : (fc (pX s i)).length ≤ 1000000000000 := by rw [fc_length, pX_length]; omega
            obtain ⟨P, hP⟩ : ∃ P, pX s i = P := ⟨_, rfl⟩
            obtain ⟨Q, hQ⟩ : ∃ Q, pY s i = Q := ⟨_, rfl⟩
            rw [hP, hQ] at HP HR
            rw [hP] at lp
            rw [hP] at v0
            rw [hQ] at v1
            have hown := HR.out.two.a
            clear hP hQ
            go_wp2_with (at_builtin; refine wpList_append_cell wr wr rfl _ _ 24 rfl (w.heap.size + 1 + 1) 4 Try.u24 (.bool false) 1 Try.i4 rfl (by decide) _ (fc P) (by rfl) hown (Below.refl _ _) (by have := HR.out.var.lt; omega) (.bool t) rfl (by rfl) lp ?_; intro v' w2 R1 R2 R3; obtain ⟨b1, f1, hv', -⟩ := R1.form; generalize (fc P ++ [Value.bool t]).length = n1 at hv'; subst hv'; obtain ⟨hR2, q0, q1, q2⟩ := HR.out.first R1 R2 R3; have HR2 := hide hR2; clear R1 R2 R3 hR2)
            go_roundw
            case rel => exact ⟨i + 1, _, _, by omega, by go_num, by rw [HP.out.1, HP.out.2]; exact HR2.out⟩
            case measure => simp [intOf]; omega
          · have HP := hide (And.intro (pX_hi s i h16) (pY_hi s i h16))
            rw [HT.out] at HP
            have lp : (fc (pY s i)).length ≤ 1000000000000 := by rw [fc_length, pY_length]; omega
            obtain ⟨P, hP⟩ : ∃ P, pX s i = P := ⟨_, rfl⟩
            obtain ⟨Q, hQ⟩ : ∃ Q, pY s i = Q := ⟨_, rfl⟩
            rw [hP, hQ] at HP HR
            rw [hQ] at lp
            rw [hP] at v0
            rw [hQ] at v1
            have hown := HR.out.two.b
            clear hP hQ
            go_wp2_with (at_builtin; refine wpList_append_cell wr wr rfl _ _ 24 rfl (w.heap.size + 1 + 1) 4 Try.u24 (.bool false) 1 Try.i4 rfl (by decide) _ (fc Q) (by rfl) hown (Below.refl _ _) (by have := HR.out.var.lt; omega) (.bool t) rfl (by rfl) lp ?_; intro v' w2 R1 R2 R3; obtain ⟨b1, f1, hv', -⟩ := R1.form; generalize (fc Q ++ [Value.bool t]).length = n1 at hv'; subst hv'; obtain ⟨hR2, q0, q1, q2⟩ := HR.out.second R1 R2 R3; have HR2 := hide hR2; clear R1 R2 R3 hR2)
            go_roundw
            case rel => exact ⟨i + 1, _, _, by omega, by go_num, by rw [HP.out.1, HP.out.2]; exact HR2.out⟩
            case measure => simp [intOf]; omega
    · obtain rfl : i = 24 := by omega
      obtain ⟨a1, e1, a2, e2, hu, hv⟩ := hR.two.form
      subst hu hv
      generalize (pX s 24).length = n1 at *
      generalize (pY s 24).length = n2 at *
      obtain ⟨v0, v1⟩ := hR.var.cells
      obtain ⟨q0, q1⟩ := hR.res.cells
      obtain ⟨f0, f1⟩ := hR.res.frozen
      have m1 := hR.var.lt
      have m0 := hR.res.lt
      have HT := hide hR.two
      rw [HA.out.1, HA.out.2] at HT
      have HB := hide hR.bel
      clear hR
      go_wp2
      refine bodyPost_ret (v := .tuple #[.agg #[.slice a1 n1 e1, .slice a2 n2 e2], .bool true]) (by simp [results, go_sem, q0, q1]) rfl ⟨_, _, rfl, ?_, ?_⟩
      · exact ((HT.out.set_other (by omega) _).set_other (by omega) _).base_le (by omega)
      · exact ((HB.out.setCell (by simp) _).setCell (by simp) _)
/-- What a text tells. -/
def rdR (s : ByteArray) : Bool := decide (s.size = 3)
def rdX (s : ByteArray) : List Bool := if s.size = 3 then readX s else []
def rdY (s : ByteArray) : List Bool := if s.size = 3 then readY s else []
theorem rdX_le (s : ByteArray) : (rdX s).length ≤ 16 := by
  unfold rdX
  split
  · next h => rw [readX_length s h]; omega
  · simp
theorem rdY_le (s : ByteArray) : (rdY s).length ≤ 8 := by
  unfold rdY
  split
  · next h => rw [readY_length s h]; omega
  · simp
theorem specRead_any (s : ByteArray) (w : World) (h1 : s.size ≤ 1048576) :
    Calls Try.prog 26 #[.string s] w fun e w' => ∃ u v, e = .returned (.tuple #[.agg #[u, v], .bool (rdR s)]) ∧ Two w' w.heap.size u v (rdX s) (rdY s) ∧ Below w.heap.size w w' := by
  by_cases h : s.size = 3
  · have e1 : rdR s = true := by simp [rdR, h]
    have e2 : rdX s = readX s := by simp [rdX, h]
    have e3 : rdY s = readY s := by simp [rdY, h]
    rw [e1, e2, e3]
    exact specRead_three s w h
  · have e1 : rdR s = false := by simp [rdR, h]
    have e2 : rdX s = [] := by simp [rdX, h]
    have e3 : rdY s = [] := by simp [rdY, h]
    rw [e1, e2, e3]
    exact (specRead_len s w h h1).mono fun e w' ⟨he, hb⟩ => ⟨_, _, he, Two.nil _ _, hb⟩
theorem implRead_any (s : ByteArray) (w : World) (h1 : s.size ≤ 1048576) :
    Calls Try.prog 12 #[.string s] w fun e w' => ∃ u v, e = .returned (.tuple #[.agg #[u, v], .bool (rdR s)]) ∧ Two w' w.heap.size u v (rdX s) (rdY s) ∧ Below w.heap.size w w' := by
  by_cases h : s.size = 3
  · have e1 : rdR s = true := by simp [rdR, h]
    have e2 : rdX s = readX s := by simp [rdX, h]
    have e3 : rdY s = readY s := by simp [rdY, h]
    rw [e1, e2, e3]
    exact implRead_three s w h
  · have e1 : rdR s = false := by simp [rdR, h]
    have e2 : rdX s = [] := by simp [rdX, h]
    have e3 : rdY s = [] := by simp [rdY, h]
    rw [e1, e2, e3]
    exact (implRead_len s w h h1).mono fun e w' ⟨he, hb⟩ => ⟨_, _, he, Two.nil _ _, hb⟩
end Go.Proofs.Ytakkdfbcipbbjaa
