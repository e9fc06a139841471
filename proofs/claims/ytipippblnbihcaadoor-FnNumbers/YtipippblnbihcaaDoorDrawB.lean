/- spec.l01New, spec.l01Long, spec.l01PickInt, spec.l01Number, spec.DrawVarText and spec.DrawHex by their contracts. -/
import Derived.Test.YtipippblnbihcaaDoorDraw
namespace Go.Proofs.YtipippblnbihcaaDoor
open Go.RowKit Kit

set_option maxRecDepth 100000 in
set_option maxHeartbeats 800000 in
theorem new_any (w : World) (a : Option Addr) (len cap : Nat) (hcode : CodeIs w a len) (hlen : len ≤ 1048576) :
    Calls Tryd.prog 16 #[.slice a len cap] w fun e w' => e = .returned (.pointer (some ⟨w.heap.size, 0, none⟩)) ∧ Cur 48 w w' w.heap.size a len cap ∧ w.heap.size < w'.heap.size := by
  have HO := hide hcode
  have a30 := fun n => and30 n
  clear hcode
  go_enter Tryd.func16, Tryd.ntmps16
  go_wp2
  go_loop [3, 4] (fun x i => ∃ (j : Nat) (h : Int), j ≤ len ∧ i = .int .i64 j ∧ x = .int .i64 h ∧ 0 ≤ h ∧ h < 1073741824) (fun _ i => len - (intOf i).toNat)
  case atStart => exact ⟨0, _, Nat.zero_le _, rfl, rfl, by omega, by omega⟩
  case round =>
    obtain ⟨j, h, hj, rfl, rfl, h0, h1⟩ := hrel
    by_cases hlt : j < len
    · by_cases h4 : j < 4000
      · obtain ⟨b, off, z, rfl, hb, hz, hz0, hz1⟩ := HO.out j hlt
        have i0 : (0 : Int) ≤ (j : Int) := by omega
        have i1 : (j : Int) < (len : Int) := by omega
        go_wp2
        go_round
        case rel => exact ⟨j + 1, _, by omega, by go_num, rfl, by omega, by omega⟩
        case measure => simp [intOf]; omega
      · go_wp2
        go_ret
        exact ⟨rfl, ⟨Nat.le_refl _, (Below.refl _ _).alloc (Nat.le_refl _) _, 0, h, heap_alloc_new w _, Nat.zero_le _⟩, by simp⟩
    · go_wp2
      go_ret
      exact ⟨rfl, ⟨Nat.le_refl _, (Below.refl _ _).alloc (Nat.le_refl _) _, 0, h, heap_alloc_new w _, Nat.zero_le _⟩, by simp⟩

theorem bc_set (l : List UInt8) (j : Nat) (b : UInt8) : (bc l).set j (.int .u8 (b.toNat : Int)) = bc (l.set j b) := by
  unfold bc
  rw [List.map_set]
theorem bc_length_rep (n : Nat) : (madeCells #[.int .u8 0] n).toList.length = n := by rw [toList_madeCells_one]; simp
theorem zeros_bc (n : Nat) : (madeCells #[.int .u8 0] n).toList = bc (List.replicate n 0) := by
  rw [toList_madeCells_one]
  simp [bc]

set_option maxRecDepth 100000 in
set_option maxHeartbeats 800000 in
theorem long_any (n x : Nat) (w : World) (hn : n ≤ 30000) (hx : x < 256) :
    Calls Tryd.prog 19 #[.int .i64 n, .int .u8 x] w fun e w' => ∃ l : List UInt8, l.length = n ∧ e = .returned (.string ⟨l.toArray⟩) ∧ Below w.heap.size w w' := by
  obtain ⟨i0, hi, hz0, hz1, hz2⟩ := info_parts Tryd.info5
  go_enter Tryd.func19, Tryd.ntmps19
  go_wp2_with (at_make; refine wpList_make_full _ rfl _ _ 22 rfl w.heap.size 5 i0 (.int .u8 0) 1 Tryd.underlying22 hi hz0 hz1 .i64 .i64 _ _ n rfl rfl ?c0 ?c1 ?c2 ?c3 ?c4 ?_)
  case c0 => rfl
  case c1 => rfl
  case c2 => rw [hz2]; omega
  case c3 => unfold maxLen; omega
  case c4 => exact Nat.le_refl _
  intro w1 hown1 hgrow1
  have O1 : ROwns w1 w.heap.size 5 (.slice (some ⟨w.heap.size, 0, none⟩) n n) (bc (List.replicate n 0)) := by
    unfold ROwns
    rw [← zeros_bc, bc_length_rep n]
    exact hown1
  have B1 : Below w.heap.size w w1 := (Below.refl _ w).grown hgrow1 (Nat.le_refl _) (fun k hk => by cases hk)
  have HO1 := hide O1
  clear hown1 hgrow1 O1
  go_wp2
  go_loopw [6] (fun i wr => ∃ (j : Nat) (l : List UInt8), j ≤ n ∧ i = .int .i64 j ∧ l.length = n ∧ ROwns wr w.heap.size 5 (.slice (some ⟨w.heap.size, 0, none⟩) n n) (bc l) ∧ Below w.heap.size w wr) (fun i _ => n - (intOf i).toNat)
  case atStart => exact ⟨0, _, Nat.zero_le _, rfl, by simp, HO1.out, B1⟩
  case round =>
    obtain ⟨j, l, hj, rfl, hl, hown, hb⟩ := hrel
    have HL := hide hl
    have HO := hide hown
    clear hl hown
    by_cases hlt : j < n
    · obtain ⟨g, c2, e1, k1, k2, -, -, -⟩ := HO.out.at j (by rw [bc_length, HL.out]; exact hlt)
      simp only [Value.slice.injEq, Option.some.injEq, Addr.mk.injEq] at e1
      obtain ⟨⟨rfl, -, -⟩, -, -⟩ := e1
      have hct : ∃ t : UInt8, wr.cell? ⟨w.heap.size, j, none⟩ = some (.int .u8 (t.toNat : Int)) := by
        refine ⟨l[j]'(by rw [HL.out]; exact hlt), ?_⟩
        rw [k1]
        simp [bc, HL.out, hlt]
      obtain ⟨t, hct⟩ := hct
      have j0 : (0 : Int) ≤ (j : Int) := by omega
      have j1 : (j : Int) < (n : Int) := by omega
      clear k1
      go_wp2
      have hll : (bc l).length = n := by rw [bc_length, HL.out]
      have O3 : ROwns wr w.heap.size 5 (.slice (some ⟨w.heap.size, 0, none⟩) (bc l).length n) (bc l) := by rw [hll]; exact HO.out
      have O4 := (O3.stored j (.int .u8 ((lowB x).toNat : Int))).1
      rw [bc_set, hll] at O4
      have O5 : Below w.heap.size w (wr.setCell ⟨w.heap.size, j, none⟩ (.int .u8 ((lowB x).toNat : Int))) := hb.setCell (p := ⟨w.heap.size, j, none⟩) (Nat.le_refl _) _
      have hxe : ((lowB x).toNat : Int) = (x : Int) := (byte_low x hx).symm
      rw [hxe] at O4 O5
      go_roundw
      case rel => exact ⟨j + 1, l.set j (lowB x), by omega, by go_num, by rw [List.length_set]; exact HL.out, O4, O5⟩
      case measure => simp [intOf]; omega
    · have O2 : Owns wr w.heap.size 5 (.slice (some ⟨w.heap.size, 0, none⟩) n n) l := by
        have := HO.out
        unfold ROwns at this
        unfold Owns
        rwa [bc_length] at this
      have hcv := conv_own (P := Tryd.prog) 22 9 5 Tryd.underlying22 Tryd.underlying5 Tryd.underlying9 O2
      clear O2
      go_wp2
      go_ret
      exact ⟨l, HL.out, rfl, hb⟩

def pickCells : Array Value := #[.int .i64 (-1), .int .i64 0, .int .i64 127, .int .i64 128, .int .i64 16383, .int .i64 16384, .int .i64 1000000000, .int .i64 1000000001, .int .i64 9223372036854775807, .int .i64 (-9223372036854775808)]
theorem pick_at : ∀ x < 10, ∃ z : Int, pickCells[x]? = some (.int .i64 z) := by
  intro x hx
  match x, hx with
  | 0, _ => exact ⟨_, rfl⟩
  | 1, _ => exact ⟨_, rfl⟩
  | 2, _ => exact ⟨_, rfl⟩
  | 3, _ => exact ⟨_, rfl⟩
  | 4, _ => exact ⟨_, rfl⟩
  | 5, _ => exact ⟨_, rfl⟩
  | 6, _ => exact ⟨_, rfl⟩
  | 7, _ => exact ⟨_, rfl⟩
  | 8, _ => exact ⟨_, rfl⟩
  | 9, _ => exact ⟨_, rfl⟩
theorem pickInt_any (w0 w : World) (c g : Nat) (a : Option Addr) (len cap : Nat) (hcode : CodeIs w0 a len) (hlen : len ≤ 1048576) (hcur : Cur 48 w0 w c a len cap) (hg : w.heap[g]? = some (.cells pickCells 3 (0, 0))) (hne : c ≠ g) :
    Calls Tryd.prog 23 #[.pointer (some ⟨c, 0, none⟩), .slice (some ⟨g, 0, none⟩) 10 10] w fun e w' => ∃ z : Int, e = .returned (.int .i64 z) ∧ Drew w0 w w' c a len cap := by
  have HC := hide hcur
  have HO := hide hcode
  have HG := hide hg
  clear hcur hcode hg
  go_enter Tryd.func23, Tryd.ntmps23
  go_wp2_with fail
  refine (below_any w0 w c a len cap 10 HO.out hlen HC.out (by decide) (by decide)).mono ?_
  rintro e w1 ⟨x, hx, rfl, hd⟩
  have HD := hide hd
  obtain ⟨z, hz⟩ := pick_at x hx
  have hlt : g < w.heap.size := (Array.getElem?_eq_some_iff.1 HG.out).1
  have hcell : w1.cell? ⟨g, x, none⟩ = some (.int .i64 z) := by
    rw [cell_of_row w1 g x pickCells 3 (0, 0) (by rw [hd.2.block g hlt (by simpa using Ne.symm hne)]; exact HG.out)]
    exact hz
  clear hd hz
  go_wp2
  go_ret
  exact ⟨z, rfl, HD.out⟩

theorem cur_alloc {w0 w : World} {c len cap : Nat} {a : Option Addr} (h : Cur 48 w0 w c a len cap) (hc : c < w.heap.size) (o : Obj) : Cur 48 w0 (w.alloc o) c a len cap :=
  ⟨h.1, h.2.1.alloc (by have := h.2.1.size; omega) _, by obtain ⟨i, x, hb, hi⟩ := h.2.2; exact ⟨i, x, by rw [← hb]; exact Below.heap_alloc _ _ _ hc, hi⟩⟩
theorem Drew.alloc {w0 w w' : World} {c len cap : Nat} {a : Option Addr} (h : Drew w0 w w' c a len cap) (hc : c < w.heap.size) (o : Obj) : Drew w0 w (w'.alloc o) c a len cap :=
  ⟨cur_alloc h.1 (by have := h.2.size; omega) o, grownBy_trans h.2 (World.grownBy_alloc _ _ _)⟩
set_option maxHeartbeats 800000 in
theorem number_any (w0 w : World) (c : Nat) (a : Option Addr) (len cap : Nat) (hcode : CodeIs w0 a len) (hlen : len ≤ 1048576) (hcur : Cur 48 w0 w c a len cap) (hcw : c < w.heap.size) :
    Calls Tryd.prog 15 #[.pointer (some ⟨c, 0, none⟩)] w fun e w' => ∃ z : Int, e = .returned (.int .i64 z) ∧ Drew w0 w w' c a len cap := by
  have HC := hide hcur
  have HO := hide hcode
  have hpk : (#[.int .i64 (-1), .int .i64 0, .int .i64 127, .int .i64 128, .int .i64 16383, .int .i64 16384, .int .i64 1000000000, .int .i64 1000000001, .int .i64 9223372036854775807, .int .i64 (-9223372036854775808)] : Array Value) = pickCells := rfl
  have HPK := hide hpk
  clear hcur hcode hpk
  go_enter Tryd.func15, Tryd.ntmps15
  go_wp2_with fail
  refine (below_any w0 w c a len cap 4 HO.out hlen HC.out (by decide) (by decide)).mono ?_
  rintro e w1 ⟨x, hx, rfl, hd⟩
  have HD := hide hd
  have hc1 : c < w1.heap.size := by have := hd.2.size; omega
  clear hd
  by_cases x0 : x = 0
  · have b0 : ((x : Int) == 0) = true := by simp; omega
    clear x0
    go_wp2_with fail
    rw [HPK.out]
    refine (pickInt_any w0 (w1.alloc (.cells pickCells 3)) c w1.heap.size a len cap HO.out hlen (cur_alloc HD.out.cur hc1 _) (heap_alloc_new w1 _) (by omega)).mono ?_
    rintro e w2 ⟨z, rfl, hd2⟩
    have HD2 := hide ((HD.out.alloc hcw (.cells pickCells 3)).trans hd2)
    clear hd2
    go_wp2
    go_ret
    exact ⟨z, rfl, HD2.out⟩
  · have b0 : ((x : Int) == 0) = false := by simp; omega
    by_cases x1 : x = 1
    · have b1 : ((x : Int) == 1) = true := by simp; omega
      clear x0 x1
      go_wp2_with fail
      refine (below_any w0 w1 c a len cap 1000000000 HO.out hlen HD.out.cur (by decide) (by decide)).mono ?_
      rintro e w2 ⟨z, hz, rfl, hd2⟩
      have HD2 := hide (HD.out.trans hd2)
      clear hd2
      go_wp2
      go_ret
      exact ⟨z, rfl, HD2.out⟩
    · have b1 : ((x : Int) == 1) = false := by simp; omega
      clear x0 x1
      go_wp2_with fail
      refine (below_any w0 w1 c a len cap 400 HO.out hlen HD.out.cur (by decide) (by decide)).mono ?_
      rintro e w2 ⟨z, hz, rfl, hd2⟩
      have HD2 := hide (HD.out.trans hd2)
      clear hd2
      go_wp2
      go_ret
      exact ⟨z, rfl, HD2.out⟩
theorem drawVar_any (w : World) (a : Option Addr) (len cap : Nat) (hcode : CodeIs w a len) (hlen : len ≤ 1048576) :
    Calls Tryd.prog 5 #[.slice a len cap] w fun e w' => ∃ z : Int, e = .returned (.int .i64 z) ∧ Below w.heap.size w w' := by
  have HO := hide hcode
  clear hcode
  go_enter Tryd.func5, Tryd.ntmps5
  go_wp2_with fail
  refine (new_any w a len cap HO.out hlen).mono ?_
  rintro e w1 ⟨rfl, hcur, hlt⟩
  have HC := hide hcur
  clear hcur
  go_wp2_with fail
  refine (number_any w w1 w.heap.size a len cap HO.out hlen HC.out hlt).mono ?_
  rintro e w2 ⟨z, rfl, hd⟩
  have HD := hide hd.1.2.1
  clear hd
  go_wp2
  go_ret
  exact ⟨z, rfl, HD.out⟩
set_option maxHeartbeats 800000 in
theorem drawHex_any (w : World) (a : Option Addr) (len cap : Nat) (hcode : CodeIs w a len) (hlen : len ≤ 1048576) :
    Calls Tryd.prog 10 #[.slice a len cap] w fun e w' => ∃ l : List UInt8, l.length ≤ 20001 ∧ e = .returned (.string ⟨l.toArray⟩) ∧ Below w.heap.size w w' := by
  have HO := hide hcode
  clear hcode
  go_enter Tryd.func10, Tryd.ntmps10
  go_wp2_with fail
  refine (new_any w a len cap HO.out hlen).mono ?_
  rintro e w1 ⟨rfl, hcur, hlt⟩
  have HC := hide hcur
  clear hcur
  go_wp2_with fail
  refine (once_any w w1 w.heap.size a len cap 60 HO.out hlen HC.out (by decide) (by decide)).mono ?_
  rintro e w2 ⟨x, rfl, hd⟩
  have HD := hide hd
  have hlt2 : w.heap.size < w2.heap.size := by have := hd.2.size; omega
  clear hd
  by_cases x0 : (x == 0) = true
  · go_wp2_with fail
    refine (below_any w w2 w.heap.size a len cap 2 HO.out hlen HD.out.cur (by decide) (by decide)).mono ?_
    rintro e w3 ⟨y, hy, rfl, hd3⟩
    have HD3 := hide hd3
    clear hd3
    go_wp2_with fail
    refine (long_any (20000 + y) 200 w3 (by omega) (by decide)).mono ?_
    rintro e w4 ⟨l, hl, rfl, hb⟩
    have HB := hide (show Below w.heap.size w w4 from HD3.out.1.2.1.trans (hb.mono HD3.out.1.2.1.size))
    clear hb
    go_wp2
    go_ret
    exact ⟨l, by omega, rfl, HB.out⟩
  · have x0' : (x == 0) = false := by simpa using x0
    clear x0
    go_wp2_with fail
    refine (below_any w w2 w.heap.size a len cap 30 HO.out hlen HD.out.cur (by decide) (by decide)).mono ?_
    rintro e w3 ⟨y, hy, rfl, hd3⟩
    have HD3 := hide hd3
    have hlt3 : w.heap.size < w3.heap.size := by have := hd3.2.size; omega
    clear hd3
    go_wp2_with fail
    refine (text_any w w3 w.heap.size a len cap y HO.out hlen HD3.out.cur hlt3 (by omega)).mono ?_
    rintro e w4 ⟨l, hl, rfl, hd4⟩
    have HB := hide hd4.1.2.1
    clear hd4
    go_wp2
    go_ret
    exact ⟨l, by omega, rfl, HB.out⟩
end Go.Proofs.YtipippblnbihcaaDoor
