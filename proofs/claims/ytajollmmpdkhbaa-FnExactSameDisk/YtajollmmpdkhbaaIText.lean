
/- spec.InodeText by its contract. -/
import Derived.Test.YtajollmmpdkhbaaCom
import Derived.Test.YtajollmmpdkhbaaIROf
import Derived.RegionTactic
import Derived.BigRegion
namespace Go.Proofs.Ytajollmmpdkhbaa
open Go.RowKit Kit
/-- Four bytes as a string. -/
def quadB (a b c d : Nat) : ByteArray := ⟨#[UInt8.ofNat a, UInt8.ofNat b, UInt8.ofNat c, UInt8.ofNat d]⟩
theorem quadB_size (a b c d : Nat) : (quadB a b c d).size = 4 := rfl
theorem Try.u9 : Try.prog.underlying 9 = some .string := by kernel_rfl
theorem Try.u5 : Try.prog.underlying 5 = some (.int .u8) := by kernel_rfl
theorem conv_quad (a b c d : Nat) (ha : a < 256) (hb : b < 256) (hc : c < 256) (hd : d < 256) (W : World) (B C : Nat)
    (h0 : W.cell? ⟨B, 0, none⟩ = some (.int .u8 a)) (h1 : W.cell? ⟨B, 1, none⟩ = some (.int .u8 b)) (h2 : W.cell? ⟨B, 2, none⟩ = some (.int .u8 c)) (h3 : W.cell? ⟨B, 3, none⟩ = some (.int .u8 d)) :
    (convert 106 9 (.slice (some ⟨B, 0, none⟩) 4 C)).run Try.prog W = .ok (.string (quadB a b c d)) W := by
  refine run_convert_bytes_back (P := Try.prog) W 106 9 5 ⟨B, 0, none⟩ C [UInt8.ofNat a, UInt8.ofNat b, UInt8.ofNat c, UInt8.ofNat d] Try.u106 Try.u5 Try.u9 ?_
  intro j hj
  simp at hj
  match j, hj with
  | 0, _ => simp [Addr.add, h0, UInt8.toNat_ofNat']; omega
  | 1, _ => simp [Addr.add, h1, UInt8.toNat_ofNat']; omega
  | 2, _ => simp [Addr.add, h2, UInt8.toNat_ofNat']; omega
  | 3, _ => simp [Addr.add, h3, UInt8.toNat_ofNat']; omega

set_option maxRecDepth 100000 in
set_option maxHeartbeats 1600000 in
theorem specText_noI (k l p q : Int) (v : Value) (w : World) (hv : RInts w v [p, q]) (hr : okR k l p q = false) :
    Calls Try.prog 78 #[.agg #[.int .i64 k, .int .i64 l, v]] w fun e w' => e = .returned (.tuple #[.string ⟨#[]⟩, .bool false]) ∧ Below w.heap.size w w' := by
  have HC := hide (fun (o : Obj) => specOk_two k l p q v (w.alloc o) (hv.alloc o))
  rw [hr] at HC
  obtain ⟨g, off, c, rfl, -⟩ := RInts.two hv
  clear hv hr
  go_enter Try.func78, Try.ntmps78
  go_wp2_with fail
  refine (HC.out _).mono ?_
  rintro e w1 ⟨rfl, B1⟩
  have HB1 := hide B1
  clear B1
  go_wp2
  go_ret2
  exact ⟨rfl, ((Below.refl _ w).alloc (Nat.le_refl _) _).trans (HB1.out.mono (by simp))⟩

set_option maxRecDepth 100000 in
set_option maxHeartbeats 1600000 in
theorem specText_other (k l : Int) (xs : List Int) (v : Value) (w : World) (hv : RInts w v xs) (hn : xs.length ≠ 2) :
    Calls Try.prog 78 #[.agg #[.int .i64 k, .int .i64 l, v]] w fun e w' => e = .returned (.tuple #[.string ⟨#[]⟩, .bool false]) ∧ Below w.heap.size w w' := by
  have HC := hide (fun (o : Obj) => specOk_other k l xs v (w.alloc o) (hv.alloc o) hn)
  obtain ⟨a, c, rfl, -⟩ := hv
  go_enter Try.func78, Try.ntmps78
  go_wp2_with fail
  refine (HC.out _).mono ?_
  rintro e w1 ⟨rfl, B1⟩
  have HB1 := hide B1
  clear B1
  go_wp2
  go_ret2
  exact ⟨rfl, ((Below.refl _ w).alloc (Nat.le_refl _) _).trans (HB1.out.mono (by simp))⟩

set_option maxRecDepth 100000 in
set_option maxHeartbeats 1600000 in
theorem specText_yesI (k l p q : Nat) (v : Value) (w : World) (hv : RInts w v [(p : Int), (q : Int)]) (hr : okR k l p q = true) (hk : k < 256) (hl : l < 256) (hp : p < 256) (hq : q < 256) :
    Calls Try.prog 78 #[.agg #[.int .i64 k, .int .i64 l, v]] w fun e w' => e = .returned (.tuple #[.string (quadB k l p q), .bool true]) ∧ Below w.heap.size w w' := by
  have HC := hide (fun (o : Obj) => specOk_two k l p q v (w.alloc o) (hv.alloc o))
  rw [hr] at HC
  have hco := conv_quad k l p q hk hl hp hq
  obtain ⟨g, off, c, rfl, hg, c0, c1⟩ := RInts.two hv
  clear hv hr
  go_enter Try.func78, Try.ntmps78
  go_wp2_with fail
  refine (HC.out _).mono ?_
  rintro e w1 ⟨rfl, B1⟩
  have X1 := (AtI.new w k l (.slice (some ⟨g, off, none⟩) 2 c)).below B1 (by simp)
  obtain ⟨d0, d1, d2, m1⟩ := X1.cells
  have e0 : w1.cell? ⟨g, off, none⟩ = some (.int .i64 p) := (B1.cell (p := ⟨g, off, none⟩) (by simp; omega)).trans ((World.cell?_alloc_lt _ _ _ hg).trans c0)
  have e1 : w1.cell? ⟨g, off + 1, none⟩ = some (.int .i64 q) := (B1.cell (p := ⟨g, off + 1, none⟩) (by simp; omega)).trans ((World.cell?_alloc_lt _ _ _ hg).trans c1)
  have HB1 := hide B1
  have hg1 : g < w1.heap.size := by omega
  clear B1 X1 c0 c1 hg
  go_wp2
  go_region
  have h1 : Below w.heap.size w w1 := ((Below.refl _ w).alloc (Nat.le_refl _) _).trans (HB1.out.mono (by simp))
  have HB2 := hide (show ∀ o, Below w.heap.size w (w1.alloc o).drew from fun o => (h1.alloc h1.size o).drew)
  clear h1
  go_wp2
  go_ret2
  exact ⟨rfl, HB2.out _⟩
end Go.Proofs.Ytajollmmpdkhbaa
