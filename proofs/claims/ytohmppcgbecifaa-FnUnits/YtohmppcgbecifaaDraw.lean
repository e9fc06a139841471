/- The draw's own functions (spec.l01Byte and its callers) by their contracts: what they answer lies in its range, and of memory the cursor's block alone turns. -/
import Derived.Test.YtohmppcgbecifaaRows
import Derived.Test.YtohmppcgbecifaaKitB
import Derived.Laws.Bits128
import Derived.Deep.QuietTactic
import Derived.BigQuiet
namespace Go.Proofs.Ytohmppcgbecifaa.Kit
open Go.RowKit
theorem and255 (n : Int) : bits .and .i64 n 255 = n % 256 := by
  have h8 : (BitVec.ofInt 64 255).toNat = 2 ^ 8 - 1 := by decide
  show IntKind.i64.wrap ((BitVec.ofInt 64 n &&& BitVec.ofInt 64 255).toNat : Nat) = n % 256
  rw [BitVec.toNat_and, BitVec.toNat_ofInt, h8, Nat.and_two_pow_sub_one_eq_mod, IntKind.wrap_i64]
  omega
theorem and30 (n : Int) : bits .and .i64 n 1073741823 = n % 1073741824 := by
  have h8 : (BitVec.ofInt 64 1073741823).toNat = 2 ^ 30 - 1 := by decide
  show IntKind.i64.wrap ((BitVec.ofInt 64 n &&& BitVec.ofInt 64 1073741823).toNat : Nat) = n % 1073741824
  rw [BitVec.toNat_and, BitVec.toNat_ofInt, h8, Nat.and_two_pow_sub_one_eq_mod, IntKind.wrap_i64]
  omega
/-- The bytes of a code that came in. -/
def CodeIs (w : World) (a : Option Addr) (len : Nat) : Prop := ∀ j, j < len → ∃ (b off : Nat) (z : Int), a = some ⟨b, off, none⟩ ∧ b < w.heap.size ∧ w.cell? ⟨b, off + j, none⟩ = some (.int .u8 z) ∧ 0 ≤ z ∧ z < 256
/-- A cursor over it, in block c, made since w0. -/
def Cur (T : TypeId) (w0 w : World) (c : Nat) (a : Option Addr) (len cap : Nat) : Prop :=
  w0.heap.size ≤ c ∧ Below w0.heap.size w0 w ∧ ∃ (i : Nat) (h : Int), w.heap[c]? = some (.cells #[.slice a len cap, .int .i64 i, .int .i64 h] T (0, 0)) ∧ i ≤ len
theorem cur_stay {T : TypeId} {w0 w : World} {c len cap i : Nat} {a : Option Addr} {h h2 : Int} (q : Nat) (hc0 : w0.heap.size ≤ c) (hB : Below w0.heap.size w0 w) (hblk : w.heap[c]? = some (.cells #[.slice a len cap, .int .i64 i, .int .i64 h] T (0, 0))) (hi : i ≤ len) :
    Cur T w0 ((w.setCell ⟨c, 2, none⟩ (.int .i64 h2)).drewN q) c a len cap ∧ w.grownBy ((w.setCell ⟨c, 2, none⟩ (.int .i64 h2)).drewN q) (some c) := by
  have hs := heap_setCell_same w c 2 _ T (.int .i64 h2) hblk
  refine ⟨⟨hc0, below_drewN (hB.setCell (p := ⟨c, 2, none⟩) hc0 _) q, i, h2, ?_, hi⟩, ⟨rfl, rfl, rfl, by show w.heap.size ≤ (w.setCell _ _).heap.size; simp, fun k _ hk => heap_setCell_other w ⟨c, 2, none⟩ k _ (fun e => hk (by simp [e]))⟩⟩
  show (w.setCell ⟨c, 2, none⟩ (.int .i64 h2)).heap[c]? = _
  rw [hs]
  rfl
theorem cur_step {T : TypeId} {w0 w : World} {c len cap i : Nat} {a : Option Addr} {h h2 : Int} (q : Nat) (hc0 : w0.heap.size ≤ c) (hB : Below w0.heap.size w0 w) (hblk : w.heap[c]? = some (.cells #[.slice a len cap, .int .i64 i, .int .i64 h] T (0, 0))) (hi : i < len) :
    Cur T w0 (((w.setCell ⟨c, 2, none⟩ (.int .i64 h2)).drewN q).setCell ⟨c, 1, none⟩ (.int .i64 ((i : Int) + 1))) c a len cap ∧ w.grownBy (((w.setCell ⟨c, 2, none⟩ (.int .i64 h2)).drewN q).setCell ⟨c, 1, none⟩ (.int .i64 ((i : Int) + 1))) (some c) := by
  obtain ⟨⟨_, hB2, i2, h3, hb2, _⟩, hg⟩ := cur_stay (h2 := h2) q hc0 hB hblk (by omega)
  have hs2 := heap_setCell_same w c 2 _ T (.int .i64 h2) hblk
  have hb3 : ((w.setCell ⟨c, 2, none⟩ (.int .i64 h2)).drewN q).heap[c]? = some (.cells #[.slice a len cap, .int .i64 i, .int .i64 h2] T (0, 0)) := by
    show (w.setCell ⟨c, 2, none⟩ (.int .i64 h2)).heap[c]? = _
    rw [hs2]
    rfl
  have hs := heap_setCell_same ((w.setCell ⟨c, 2, none⟩ (.int .i64 h2)).drewN q) c 1 _ T (.int .i64 ((i : Int) + 1)) hb3
  refine ⟨⟨hc0, hB2.setCell (p := ⟨c, 1, none⟩) hc0 _, i + 1, h2, ?_, by omega⟩, grownBy_trans hg ⟨rfl, rfl, rfl, by simp, fun k _ hk => heap_setCell_other _ ⟨c, 1, none⟩ k _ (fun e => hk (by simp [e]))⟩⟩
  rw [hs]
  rfl
theorem Cur.draws {T : TypeId} {w0 w : World} {c len cap : Nat} {a : Option Addr} (h : Cur T w0 w c a len cap) (q : Nat) : Cur T w0 (w.drewN q) c a len cap := ⟨h.1, below_drewN h.2.1 q, h.2.2⟩
theorem grownBy_draws {w w' : World} {row : Option Nat} (h : w.grownBy w' row) (q : Nat) : w.grownBy (w'.drewN q) row := ⟨h.os, h.tape, h.output, h.size, h.block⟩
theorem nat_of {x : Int} (h0 : 0 ≤ x) (h1 : x < 256) : ∃ n : Nat, n < 256 ∧ x = n := ⟨x.toNat, by omega, by omega⟩
theorem ret_nat {x : Int} {n : Nat} (h : x = n) : Ending.returned (.int .i64 x) = .returned (.int .i64 n) := by rw [h]
theorem Owns.grown {w w' : World} {base : Nat} {e : TypeId} {v : Value} {l : List UInt8} {row : Option Nat} (h : Owns w base e v l) (hg : w.grownBy w' row) (hr : ∀ k, row = some k → k < base) : Owns w' base e v l := by
  refine World.ownsRow.kept h hg ?_
  cases hv : v.ownBlock with
  | none => exact .inl rfl
  | some k =>
    right
    intro e
    have h1 := (World.ownsRow.lt h k hv).1
    have h2 := hr k e.symm
    omega
end Go.Proofs.Ytohmppcgbecifaa.Kit
namespace Go.Proofs.Ytohmppcgbecifaa
open Go.RowKit Kit
set_option maxRecDepth 100000 in
set_option maxHeartbeats 800000 in
theorem byte_any (w0 w : World) (c : Nat) (a : Option Addr) (len cap : Nat) (hcode : CodeIs w0 a len) (hlen : len ≤ 1048576) (hcur : Cur 51 w0 w c a len cap) :
    Calls Try.prog 24 #[.pointer (some ⟨c, 0, none⟩)] w fun e w' => ∃ x : Nat, x < 256 ∧ e = .returned (.int .i64 x) ∧ Cur 51 w0 w' c a len cap ∧ w.grownBy w' (some c) := by
  obtain ⟨hc0, hB, i, h, hblk, hi⟩ := hcur
  have c0 : w.cell? ⟨c, 0, none⟩ = some (.slice a len cap) := by simp [World.cell?, hblk]
  have c1 : w.cell? ⟨c, 1, none⟩ = some (.int .i64 i) := by simp [World.cell?, hblk]
  have c2 : w.cell? ⟨c, 2, none⟩ = some (.int .i64 h) := by simp [World.cell?, hblk]
  have f1 : w.frozen? ⟨c, 1, none⟩ = false := by simp [World.frozen?, hblk]
  have f2 : w.frozen? ⟨c, 2, none⟩ = false := by simp [World.frozen?, hblk]
  have HK := hide hblk
  clear hblk
  have a255 := fun n => and255 n
  by_cases hlt : i < len
  · obtain ⟨b, off, z, rfl, hb, hz, hz0, hz1⟩ := hcode i hlt
    have k1 : w.cell? ⟨b, off + i, none⟩ = some (.int .u8 z) := (hB.cell (p := ⟨b, off + i, none⟩) hb).trans hz
    have hne : ¬ b = c := by omega
    have hne' : ¬ c = b := by omega
    have i0 : (0 : Int) ≤ (i : Int) := by omega
    have i1 : (i : Int) < (len : Int) := by omega
    clear hz hcode
    go_enter Try.func24, Try.ntmps24
    go_wp2
    generalize wrap64 (wrap64 (h * 6364136223846793005) + 1442695040888963407) = h2
    go_quiet (fail)
    generalize hx : bits BinOp.xor IntKind.i64 (h2 / 8589934592) (h2 / 35184372088832) % 256 = x
    have x0 : 0 ≤ x := by omega
    have x1 : x < 256 := by omega
    clear hx
    go_wp2
    go_quiet (fail)
    go_wp2
    go_quiet (fail)
    go_wp2
    go_ret
    obtain ⟨n, hn, he⟩ := nat_of (show 0 ≤ (x + z) % 256 by omega) (by omega)
    exact ⟨n, hn, ret_nat he, (cur_step (h2 := h2) _ hc0 hB HK.out hlt).1, (cur_step (h2 := h2) _ hc0 hB HK.out hlt).2⟩
  · have i1 : ¬ (i : Int) < (len : Int) := by omega
    clear hcode
    go_enter Try.func24, Try.ntmps24
    go_wp2
    generalize wrap64 (wrap64 (h * 6364136223846793005) + 1442695040888963407) = h2
    go_quiet (fail)
    generalize hx : bits BinOp.xor IntKind.i64 (h2 / 8589934592) (h2 / 35184372088832) % 256 = x
    have x0 : 0 ≤ x := by omega
    have x1 : x < 256 := by omega
    clear hx
    go_wp2
    go_quiet (fail)
    go_wp2
    go_ret
    obtain ⟨n, hn, he⟩ := nat_of x0 x1
    exact ⟨n, hn, ret_nat he, (cur_stay (h2 := h2) _ hc0 hB HK.out (by omega)).1.draws _, grownBy_draws (cur_stay (h2 := h2) _ hc0 hB HK.out (by omega)).2 _⟩

/-- What a call leaves that drew from a cursor: the cursor goes on, its block alone has turned among what was there. -/
def Drew (w0 w w' : World) (c : Nat) (a : Option Addr) (len cap : Nat) : Prop := Cur 51 w0 w' c a len cap ∧ w.grownBy w' (some c)
theorem Drew.trans {w0 w w1 w2 : World} {c len cap : Nat} {a : Option Addr} (h : Drew w0 w w1 c a len cap) (k : Drew w0 w1 w2 c a len cap) : Drew w0 w w2 c a len cap := ⟨k.1, grownBy_trans h.2 k.2⟩
theorem Drew.cur {w0 w w' : World} {c len cap : Nat} {a : Option Addr} (h : Drew w0 w w' c a len cap) : Cur 51 w0 w' c a len cap := h.1
theorem byte_drew (w0 w : World) (c : Nat) (a : Option Addr) (len cap : Nat) (hcode : CodeIs w0 a len) (hlen : len ≤ 1048576) (hcur : Cur 51 w0 w c a len cap) :
    Calls Try.prog 24 #[.pointer (some ⟨c, 0, none⟩)] w fun e w' => ∃ x : Nat, x < 256 ∧ e = .returned (.int .i64 x) ∧ Drew w0 w w' c a len cap := byte_any w0 w c a len cap hcode hlen hcur

set_option maxHeartbeats 800000 in
theorem below_any (w0 w : World) (c : Nat) (a : Option Addr) (len cap : Nat) (n : Nat) (hcode : CodeIs w0 a len) (hlen : len ≤ 1048576) (hcur : Cur 51 w0 w c a len cap) (hn : 0 < n) (hn1 : n ≤ 4294967296) :
    Calls Try.prog 25 #[.pointer (some ⟨c, 0, none⟩), .int .i64 n] w fun e w' => ∃ x : Nat, x < n ∧ e = .returned (.int .i64 x) ∧ Drew w0 w w' c a len cap := by
  by_cases h256 : n ≤ 256
  · have nz : ((n : Int) == 0) = false := by simp; omega
    have HC := hide hcur
    have HO := hide hcode
    clear hcur hcode
    go_enter Try.func25, Try.ntmps25
    go_wp2_with fail
    refine (byte_drew w0 w c a len cap HO.out hlen HC.out).mono ?_
    rintro e w1 ⟨x, hx, rfl, hd⟩
    have HD := hide hd
    clear hd
    go_wp2
    go_ret
    exact ⟨x % n, Nat.mod_lt _ hn, ret_nat (Int.natCast_emod x n).symm, HD.out⟩
  · have nz : ((n : Int) == 0) = false := by simp; omega
    have HC := hide hcur
    have HO := hide hcode
    clear hcur hcode
    go_enter Try.func25, Try.ntmps25
    go_wp2_with fail
    refine (byte_drew w0 w c a len cap HO.out hlen HC.out).mono ?_
    rintro e w1 ⟨x, hx, rfl, hd1⟩
    have HD1 := hide hd1
    clear hd1
    go_wp2_with fail
    refine (byte_drew w0 w1 c a len cap HO.out hlen HD1.out.cur).mono ?_
    rintro e w2 ⟨y, hy, rfl, hd2⟩
    have HD2 := hide (HD1.out.trans hd2)
    clear hd2 HD1
    go_wp2_with fail
    refine (byte_drew w0 w2 c a len cap HO.out hlen HD2.out.cur).mono ?_
    rintro e w3 ⟨z, hz, rfl, hd3⟩
    have HD3 := hide (HD2.out.trans hd3)
    clear hd3 HD2
    go_wp2_with fail
    refine (byte_drew w0 w3 c a len cap HO.out hlen HD3.out.cur).mono ?_
    rintro e w4 ⟨v, hv, rfl, hd4⟩
    have HD4 := hide (HD3.out.trans hd4)
    clear hd4 HD3
    go_wp2
    go_ret
    exact ⟨(x * 16777216 + y * 65536 + z * 256 + v) % n, Nat.mod_lt _ hn, ret_nat (by rw [Int.natCast_emod]; rfl), HD4.out⟩
theorem Try.info5 : (Try.prog.info? 5).map (fun i => (i.zero, i.size, i.bytes)) = some (some (.int .u8 0), 1, 1) := by kernel_rfl
theorem byte_low (x : Nat) (h : x < 256) : (x : Int) = ((UInt8.ofNat x).toNat : Int) := by simp [UInt8.toNat_ofNat']; omega
def lowB (x : Nat) : UInt8 := UInt8.ofNat x


set_option maxRecDepth 100000 in
set_option maxHeartbeats 800000 in
theorem new_any (w : World) (a : Option Addr) (len cap : Nat) (hcode : CodeIs w a len) (hlen : len ≤ 1048576) :
    Calls Try.prog 23 #[.slice a len cap] w fun e w' => e = .returned (.pointer (some ⟨w.heap.size, 0, none⟩)) ∧ Cur 51 w w' w.heap.size a len cap ∧ w.heap.size < w'.heap.size := by
  have HO := hide hcode
  have a30 := fun n => and30 n
  clear hcode
  go_enter Try.func23, Try.ntmps23
  go_wp2
  go_loop [3, 4] (fun x i => ∃ (j : Nat) (h : Int), j ≤ len ∧ i = .int .i64 j ∧ x = .int .i64 h ∧ 0 ≤ h ∧ h < 1073741824) (fun _ i => len - (intOf i).toNat)
  case atStart => exact ⟨0, _, Nat.zero_le _, rfl, rfl, by omega, by omega⟩
  case round =>
    obtain ⟨j, h, hj, rfl, rfl, h0, h1⟩ := hrel
    by_cases hlt : j < len
    · by_cases h4 : j < 4000
      · obtain ⟨b, off, z, rfl, hb, hz, hz0, hz1⟩ := HO.out j hlt
        have i0 : (0 : Int) ≤ (j : Int) := by omega
        have i1 : (j : Int) < (len : Int) := by omega
        go_wp2
        go_round
        case rel => exact ⟨j + 1, _, by omega, by go_num, rfl, by omega, by omega⟩
        case measure => simp [intOf]; omega
      · go_wp2
        go_ret
        exact ⟨rfl, ⟨Nat.le_refl _, (Below.refl _ _).alloc (Nat.le_refl _) _, 0, h, heap_alloc_new w _, Nat.zero_le _⟩, by simp⟩
    · go_wp2
      go_ret
      exact ⟨rfl, ⟨Nat.le_refl _, (Below.refl _ _).alloc (Nat.le_refl _) _, 0, h, heap_alloc_new w _, Nat.zero_le _⟩, by simp⟩
theorem cur_alloc {w0 w : World} {c len cap : Nat} {a : Option Addr} (h : Cur 51 w0 w c a len cap) (hc : c < w.heap.size) (o : Obj) : Cur 51 w0 (w.alloc o) c a len cap :=
  ⟨h.1, h.2.1.alloc (by have := h.2.1.size; omega) _, by obtain ⟨i, x, hb, hi⟩ := h.2.2; exact ⟨i, x, by rw [← hb]; exact Below.heap_alloc _ _ _ hc, hi⟩⟩
theorem Drew.alloc {w0 w w' : World} {c len cap : Nat} {a : Option Addr} (h : Drew w0 w w' c a len cap) (hc : c < w.heap.size) (o : Obj) : Drew w0 w (w'.alloc o) c a len cap :=
  ⟨cur_alloc h.1 (by have := h.2.size; omega) o, grownBy_trans h.2 (World.grownBy_alloc _ _ _)⟩
theorem code_below {w w' : World} {a : Option Addr} {len : Nat} (h : CodeIs w a len) (hb : Below w.heap.size w w') : CodeIs w' a len := by
  intro j hj
  obtain ⟨b, off, z, h1, h2, h3, h4⟩ := h j hj
  exact ⟨b, off, z, h1, by have := hb.size; omega, (hb.cell (p := ⟨b, off + j, none⟩) h2).trans h3, h4⟩
end Go.Proofs.Ytohmppcgbecifaa
