/- spec.DrawPlaces by its contract: twelve places below 10000. -/
import Derived.Test.YtohmppcgbecifaaDraw
namespace Go.Proofs.Ytohmppcgbecifaa
open Go.RowKit Kit
theorem Try.u24n : Try.prog.underlying 24 = some (.slice 3) := by kernel_rfl
theorem Try.info3n : (Try.prog.info? 3).map (fun i => (i.zero, i.size, i.bytes)) = some (some (.int .i64 0), 1, 8) := by kernel_rfl
/-- Numbers as cells. -/
def icn (l : List Nat) : List Value := l.map fun (n : Nat) => Value.int .i64 ((n : Nat) : Int)
/-- Places: twelve numbers below 10000 in a block of their own. -/
def Places (w : World) (v : Value) : Prop := ∃ (g cap x y z t : Nat), v = .slice (some ⟨g, 0, none⟩) 12 cap ∧ g < w.heap.size ∧ x < 10000 ∧ y < 10000 ∧ z < 10000 ∧ t < 10000 ∧ w.cell? ⟨g, 0, none⟩ = some (.int .i64 x) ∧ w.cell? ⟨g, 1, none⟩ = some (.int .i64 y) ∧ w.cell? ⟨g, 2, none⟩ = some (.int .i64 z) ∧ w.cell? ⟨g, 3, none⟩ = some (.int .i64 t)
theorem places_of {w : World} {base : Nat} {v : Value} {l : List Nat} (h : ROwns w base 3 v (icn l)) (hl : l.length = 12) (hb : ∀ x ∈ l, x < 10000) : Places w v := by
  have hlen : (icn l).length = 12 := by simp [icn, hl]
  have h' : w.ownsRow base 3 1 v 12 (icn l) := by rw [← hlen]; exact h
  rcases h'.2 with ⟨rfl, h0⟩ | ⟨g, cap, cur, rfl, _, hg, _⟩
  · omega
  · have c0 : w.cell? ⟨g, 0, none⟩ = (icn l)[0]? := h'.cellAt 0 (by decide)
    have c1 : w.cell? ⟨g, 1, none⟩ = (icn l)[1]? := h'.cellAt 1 (by decide)
    have c2 : w.cell? ⟨g, 2, none⟩ = (icn l)[2]? := h'.cellAt 2 (by decide)
    have c3 : w.cell? ⟨g, 3, none⟩ = (icn l)[3]? := h'.cellAt 3 (by decide)
    match l, hl with
    | x :: y :: z :: t :: r, _ => exact ⟨g, cap, x, y, z, t, rfl, (Array.getElem?_eq_some_iff.1 hg).1, hb x (by simp), hb y (by simp), hb z (by simp), hb t (by simp), c0, c1, c2, c3⟩

set_option maxRecDepth 100000 in
set_option maxHeartbeats 800000 in
theorem drawPlaces_any (w0 : World) (a : Option Addr) (len cap : Nat) (hcode : CodeIs w0 a len) (hlen : len ≤ 1048576) :
    Calls Try.prog 9 #[.slice a len cap] w0 fun e w' => ∃ v, e = .returned v ∧ Places w' v ∧ Below w0.heap.size w0 w' := by
  have HO := hide hcode
  clear hcode
  go_enter Try.func9, Try.ntmps9
  go_wp2_with fail
  refine (new_any w0 a len cap HO.out hlen).mono ?_
  rintro e w1 ⟨rfl, hcur, hlt⟩
  have HC1 := hide hcur
  clear hcur
  go_wp2_with fail
  refine (byte_drew w0 w1 w0.heap.size a len cap HO.out hlen HC1.out).mono ?_
  rintro e w ⟨x0, hx0, rfl, hd0⟩
  have HC := hide hd0.cur
  have hcw : w0.heap.size < w.heap.size := by have := hd0.2.size; omega
  clear hd0
  go_wp2
  go_loopw [4, 5] (fun v i wr => ∃ (j : Nat) (pre : List Nat), j ≤ 12 ∧ i = .int .i64 j ∧ pre.length = j ∧ Hid (∀ x ∈ pre, x < 10000) ∧ ROwns wr w.heap.size 3 v (icn pre) ∧ Drew w0 w wr w0.heap.size a len cap) (fun _ i _ => 12 - (intOf i).toNat)
  case atStart => exact ⟨0, [], Nat.zero_le _, rfl, rfl, hide (by simp), ROwns.lit0 w _ 3 (Nat.le_refl _), ⟨⟨HC.out.1, HC.out.2.1.alloc (by have := HC.out.2.1.size; omega) _, by obtain ⟨i, h, hb, hi⟩ := HC.out.2.2; exact ⟨i, h, by rw [← hb]; exact Below.heap_alloc _ _ _ hcw, hi⟩⟩, World.grownBy_alloc _ _ _⟩⟩
  case round =>
    obtain ⟨j, pre, hj, rfl, hl, HP, hown, hd⟩ := hrel
    have HL := hide hl
    have HD := hide hd
    have HOW := hide hown
    have hl2 : (icn pre).length ≤ 1000000000000 := by simp [icn]; omega
    have hsz : w.heap.size ≤ wr.heap.size := hd.2.size
    clear hl hd hown
    by_cases hlt : j < 12
    · have b1 : decide ((j : Int) < 12) = true := by simp; omega
      go_wp2_with fail
      refine (below_any w0 wr w0.heap.size a len cap 10000 HO.out hlen HD.out.cur (by decide) (by decide)).mono ?_
      rintro e w1 ⟨x, hx, rfl, hd1⟩
      have HD1 := hide (HD.out.trans hd1)
      have hown1 : ROwns w1 w.heap.size 3 _ (icn pre) := HOW.out.grown hd1.2 (fun k hk hc => by have := (HOW.out.lt k hk).1; cases hc; omega)
      have hsz1 : w.heap.size ≤ w1.heap.size := HD1.out.2.size
      clear hd1 HOW HD
      go_wp2_with (at_builtin; refine wpList_append_cell w1 w1 rfl _ _ 24 rfl w.heap.size 3 Try.u24n (.int .i64 0) 8 Try.info3n rfl (by decide) _ (icn pre) (by rfl) hown1 (Below.refl _ _) hsz1 (.int .i64 x) rfl (by rfl) hl2 ?_; intro v' w2 R1 R2 R3)
      have hc1 : w0.heap.size < w1.heap.size := by omega
      have RC : Cur 51 w0 w2 w0.heap.size a len cap := ⟨HD1.out.1.1, ⟨R2.os.trans HD1.out.1.2.1.os, R2.tape.trans HD1.out.1.2.1.tape, R2.output.trans HD1.out.1.2.1.output, Nat.le_trans HD1.out.1.2.1.size R2.size, fun k hk => (R2.block k (by have := HC.out.2.1.size; omega)).trans (HD1.out.1.2.1.block k hk)⟩, by obtain ⟨i, h, hb, hi⟩ := HD1.out.1.2.2; exact ⟨i, h, by rw [R2.block w0.heap.size hcw, hb], hi⟩⟩
      have RG : w.grownBy w2 (some w0.heap.size) := ⟨R2.os.trans HD1.out.2.os, R2.tape.trans HD1.out.2.tape, R2.output.trans HD1.out.2.output, Nat.le_trans HD1.out.2.size R2.size, fun k hk hne => (R2.block k hk).trans (HD1.out.2.block k hk hne)⟩
      have HR := hide (And.intro RC RG)
      have RO : ROwns w2 w.heap.size 3 v' (icn (pre ++ [x])) := by simpa [icn] using R1
      have HRO := hide RO
      have HPX : Hid (∀ y ∈ pre ++ [x], y < 10000) := hide (fun y hy => by
        rcases List.mem_append.1 hy with h | h
        · exact HP.out y h
        · rw [List.mem_singleton.1 h]; exact hx)
      clear RC RG R2 R3 hown1 RO R1
      go_wp2
      go_roundw
      case rel => exact ⟨j + 1, _, by omega, by go_num, by have := HL.out; simp; omega, HPX, HRO.out, HR.out⟩
      case measure => simp [intOf]; omega
    · have b1 : decide ((j : Int) < 12) = false := by simp; omega
      go_wp2
      go_ret
      exact ⟨_, rfl, places_of HOW.out (by have := HL.out; omega) HP.out, HD.out.cur.2.1⟩
end Go.Proofs.Ytohmppcgbecifaa
