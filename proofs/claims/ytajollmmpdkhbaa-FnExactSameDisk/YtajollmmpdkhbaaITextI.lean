
/- impl.InodeText by its contract. -/
import Derived.Test.YtajollmmpdkhbaaCom
import Derived.Test.YtajollmmpdkhbaaIText
namespace Go.Proofs.Ytajollmmpdkhbaa
open Go.RowKit Kit

theorem conv_quad4 (a b c d : Nat) (ha : a < 256) (hb : b < 256) (hc : c < 256) (hd : d < 256) (W : World) (o1 o2 o3 : Obj) :
    (convert 106 9 (.slice (some ⟨W.heap.size, 0, none⟩) 4 4)).run Try.prog ((((W.alloc (.cells #[.int .u8 a, .int .u8 b, .int .u8 c, .int .u8 d] 5)).alloc o1).alloc o2).alloc o3) = .ok (.string (quadB a b c d)) ((((W.alloc (.cells #[.int .u8 a, .int .u8 b, .int .u8 c, .int .u8 d] 5)).alloc o1).alloc o2).alloc o3) := by
  have K : ((((W.alloc (.cells #[.int .u8 a, .int .u8 b, .int .u8 c, .int .u8 d] 5)).alloc o1).alloc o2).alloc o3).heap[W.heap.size]? = some (.cells #[.int .u8 a, .int .u8 b, .int .u8 c, .int .u8 d] 5 (0, 0)) :=
    (Below.heap_alloc _ _ _ (by simp; omega)).trans (heap_new3 W _ _ _)
  generalize ((((W.alloc (.cells #[.int .u8 a, .int .u8 b, .int .u8 c, .int .u8 d] 5)).alloc o1).alloc o2).alloc o3) = W' at *
  exact conv_quad a b c d ha hb hc hd W' _ _ (by simp [World.cell?, K]) (by simp [World.cell?, K]) (by simp [World.cell?, K]) (by simp [World.cell?, K])

set_option maxHeartbeats 1600000 in
theorem implText_noI (k l p q : Int) (v : Value) (w : World) (hv : RInts w v [p, q]) (hr : okR k l p q = false) :
    Calls Try.prog 82 #[.agg #[.int .i64 k, .int .i64 l, v]] w fun e w' => e = .returned (.tuple #[.string ⟨#[]⟩, .bool false]) ∧ Below w.heap.size w w' := by
  have HV := hide hv
  have HR := hide (right_anyI k l p q)
  rw [hr] at HR
  obtain ⟨g, off, c, rfl, -⟩ := RInts.two hv
  clear hv hr
  go_enter Try.func82, Try.ntmps82
  go_wp2_with fail
  refine (recordOf_two k l p q _ _ (HV.out.alloc _)).mono ?_
  rintro e w1 ⟨rfl, B1⟩
  have HB1 := hide B1
  clear B1
  go_wp2_with fail
  refine (HR.out _).mono ?_
  rintro e w2 ⟨rfl, B2⟩
  have HB2 := hide B2
  clear B2
  go_wp2
  go_ret2
  have h1 : Below w.heap.size w w1 := ((Below.refl _ w).alloc (Nat.le_refl _) _).trans (HB1.out.mono (by simp))
  exact ⟨rfl, (h1.alloc h1.size _).trans (HB2.out.mono (by have := h1.size; simp; omega))⟩

set_option maxHeartbeats 1600000 in
theorem implText_other (k l : Int) (xs : List Int) (v : Value) (w : World) (hv : RInts w v xs) (hn : xs.length ≠ 2) :
    Calls Try.prog 82 #[.agg #[.int .i64 k, .int .i64 l, v]] w fun e w' => e = .returned (.tuple #[.string ⟨#[]⟩, .bool false]) ∧ Below w.heap.size w w' := by
  have HV := hide hv
  obtain ⟨a, c, rfl, -⟩ := hv
  go_enter Try.func82, Try.ntmps82
  go_wp2_with fail
  refine (recordOf_other k l xs _ _ (HV.out.alloc _) hn).mono ?_
  rintro e w1 ⟨rfl, B1⟩
  have HB1 := hide B1
  clear B1
  go_wp2
  go_ret2
  have h1 : Below w.heap.size w w1 := ((Below.refl _ w).alloc (Nat.le_refl _) _).trans (HB1.out.mono (by simp))
  exact ⟨rfl, h1.alloc h1.size _⟩

set_option maxRecDepth 100000 in
set_option maxHeartbeats 3200000 in
theorem implText_yesI (k l p q : Nat) (v : Value) (w : World) (hv : RInts w v [(p : Int), (q : Int)]) (hr : okR k l p q = true) (hk : k < 256) (hl : l < 256) (hp : p < 256) (hq : q < 256) :
    Calls Try.prog 82 #[.agg #[.int .i64 k, .int .i64 l, v]] w fun e w' => e = .returned (.tuple #[.string (quadB k l p q), .bool true]) ∧ Below w.heap.size w w' := by
  have HV := hide hv
  have HR := hide (right_anyI k l p q)
  rw [hr] at HR
  have hco := conv_quad4 k l p q hk hl hp hq
  have a0 := arr0 p q
  have a1 := arr1 p q
  have mk := make04
  obtain ⟨g, off, c, rfl, -⟩ := RInts.two hv
  clear hv hr
  go_enter Try.func82, Try.ntmps82
  go_wp2_with fail
  refine (recordOf_two k l p q _ _ (HV.out.alloc _)).mono ?_
  rintro e w1 ⟨rfl, B1⟩
  have h1 : Below w.heap.size w w1 := ((Below.refl _ w).alloc (Nat.le_refl _) _).trans (B1.mono (by simp))
  have HB1 := hide h1
  clear B1 h1
  go_wp2_with fail
  refine (HR.out _).mono ?_
  rintro e w2 ⟨rfl, B2⟩
  have K : w2.heap[w1.heap.size]? = some (.cells #[.int .i64 k, .int .i64 l, .int .i64 p, .int .i64 q] 81 (0, 0)) := (B2.block _ (by simp)).trans (heap_new _ _)
  have r0 : w2.cell? ⟨w1.heap.size, 0, none⟩ = some (.int .i64 k) := by simp [World.cell?, K]
  have r1 : w2.cell? ⟨w1.heap.size, 1, none⟩ = some (.int .i64 l) := by simp [World.cell?, K]
  have r2 : w2.cell? ⟨w1.heap.size, 2, none⟩ = some (.int .i64 p) := by simp [World.cell?, K]
  have r3 : w2.cell? ⟨w1.heap.size, 3, none⟩ = some (.int .i64 q) := by simp [World.cell?, K]
  have l1 : w1.heap.size < w2.heap.size := (Array.getElem?_eq_some_iff.1 K).1
  have l2 : w1.heap.size < w2.heap.size + 1 := by omega
  have l3 : w1.heap.size < w2.heap.size + 1 + 1 := by omega
  have h2 : Below w.heap.size w w2 := (HB1.out.alloc HB1.out.size _).trans (B2.mono (by have := HB1.out.size; simp; omega))
  have HB2 := hide h2
  clear B2 h2 K
  go_wp2
  go_rounds 3
  go_ret2
  exact ⟨rfl, (((HB2.out.alloc HB2.out.size _).alloc (by have := HB2.out.size; simp; omega) _).alloc (by have := HB2.out.size; simp; omega) _).alloc (by have := HB2.out.size; simp; omega) _⟩
end Go.Proofs.Ytajollmmpdkhbaa
