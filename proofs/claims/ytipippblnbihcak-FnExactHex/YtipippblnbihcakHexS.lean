/- spec.l01Figure and spec.Hex by their contracts. -/
import Derived.Test.YtipippblnbihcakVar
import Derived.Deep.RegionHeld3
import Derived.Deep.AppendLies
namespace Go.Proofs.Ytipippblnbihcak.Kit
open Go.RowKit

/-- 'append(out, b, ..)' of some bytes at a step of a region that draws its order. -/
theorem step_append_bytes {P : Program} {w : World} {ops : Array Oper} {o : Oper} {a : Act} {K : Act → World → Prop} {Q : Exit → Act → World → Prop} {E : Prop} (w0 : World) (hgd : o.guard = none) (s x : Operand) (t : TypeId)
    (ho : o.op = .call { callee := .builtin .append, args := #[s, x], argTypes := #[t, t] }) (base : Nat) (e : TypeId) (ht : P.underlying t = some (.slice e))
    (hi : (P.info? e).map (fun i => (i.zero, i.size, i.bytes)) = some (some (.int .u8 0), 1, 1)) (v : Value) (pre : List UInt8) (hs : a.eval s = v) (hown : Owns w base e v pre)
    (hb : Below base w0 w) (hbase : base ≤ w.heap.size) (g m : Nat) (hx : a.eval x = .slice (some ⟨g, 0, none⟩) m m) (nb : List UInt8) (hm : nb.length = m) (h0 : 0 < m)
    (hc : ∀ (j : Nat) (b : UInt8), nb[j]? = some b → w.cell? ⟨g, j, none⟩ = some (.int .u8 (b.toNat : Int))) (hl : pre.length + m ≤ 1000000000000)
    (h : ∀ v' w', Owns w' base e v' (pre ++ nb) → Below base w0 w' → w.grownBy w' v.ownBlock → K (a.put o.dst v') w') :
    if Region.wanted o (yielded ops a.tmps) = true then Oper.wp P o a w K Q else E := by
  obtain ⟨i0, hi, hz0, hz1, hz2⟩ := info_parts hi
  unfold Owns at hown
  refine step_append_lies w hgd s x t ho base e i0 (.int .u8 0) 1 1 ht hi hz0 hz1 hz2 rfl (by decide) v pre.length (bc pre) hs hown ⟨g, 0, none⟩ m m (bc nb) hx ?_ ?_ ?_ h0 ?_ ?_ hbase w.heap.size rfl ?_
  · rw [bc_length, hm]; omega
  · intro j u hj
    have ha : (⟨g, 0, none⟩ : Addr).add j = ⟨g, j, none⟩ := by cases j <;> simp [Addr.add]
    simp only [bc, List.getElem?_map, Option.map_eq_some_iff] at hj
    obtain ⟨b, hb1, rfl⟩ := hj
    rw [ha]
    exact hc j b hb1
  · intro u hu
    simp only [bc, List.mem_map] at hu
    obtain ⟨b, _, rfl⟩ := hu
    rfl
  · unfold maxLen; omega
  · omega
  · intro g' cap w' hown' hgrow _ _
    refine h _ w' ?_ (hb.grown hgrow hbase fun k hk => (hown.lt k hk).1) hgrow
    unfold Owns
    rw [bc_append, List.length_append, hm]
    exact hown'

/-- The same at two bytes that were just laid in a block of their own. -/
theorem step_append_two {P : Program} (w0 w : World) {ops : Array Oper} {o : Oper} {a : Act} {K : Act → World → Prop} {Q : Exit → Act → World → Prop} {E : Prop} (hgd : o.guard = none) (s x : Operand) (t : TypeId)
    (ho : o.op = .call { callee := .builtin .append, args := #[s, x], argTypes := #[t, t] }) (base : Nat) (e : TypeId) (ht : P.underlying t = some (.slice e))
    (hi : (P.info? e).map (fun i => (i.zero, i.size, i.bytes)) = some (some (.int .u8 0), 1, 1)) (v : Value) (pre : List UInt8) (hs : a.eval s = v) (hown : Owns w base e v pre)
    (hb : Below base w0 w) (hbase : base ≤ w.heap.size) (b1 b2 : UInt8) (hx : a.eval x = .slice (some ⟨w.heap.size, 0, none⟩) 2 2) (hl : pre.length + 2 ≤ 1000000000000)
    (h : ∀ v' w', Owns w' base e v' (pre ++ [b1, b2]) → Below base w0 w' → K (a.put o.dst v') w') :
    if Region.wanted o (yielded ops a.tmps) = true then Oper.wp P o a (w.alloc (.cells #[.int .u8 (b1.toNat : Int), .int .u8 (b2.toNat : Int)] e)).drew K Q else E := by
  refine step_append_bytes w0 hgd s x t ho base e ht hi v pre hs (hown.alloc _).drew (hb.alloc hbase _).drew (by simp; omega) w.heap.size 2 hx [b1, b2] rfl (by decide) ?_ hl fun v' w' h1 h2 _ => h v' w' h1 h2
  intro j b hj
  match j, hj with
  | 0, hj => simp at hj; subst hj; simp
  | 1, hj => simp at hj; subst hj; simp

theorem wrapId {x : Int} (h0 : 0 ≤ x) (h1 : x ≤ 1000000000000) : IntKind.i64.wrap x = x := by
  simp [IntKind.wrap, IntKind.signed, IntKind.bits]
  omega
/-- A figure. -/
def figB (x : Nat) : UInt8 := UInt8.ofNat (if x < 10 then 48 + x else 87 + x)
/-- The figures of bytes. -/
def hexL : List UInt8 → List UInt8
  | [] => []
  | c :: r => figB (c.toNat / 16) :: figB (c.toNat % 16) :: hexL r
theorem hexL_snoc (l : List UInt8) (c : UInt8) : hexL (l ++ [c]) = hexL l ++ [figB (c.toNat / 16), figB (c.toNat % 16)] := by
  induction l with
  | nil => rfl
  | cons a r ih => simp [hexL, ih]
theorem hexL_length (l : List UInt8) : (hexL l).length = 2 * l.length := by
  induction l with
  | nil => rfl
  | cons a r ih => simp [hexL, ih]; omega
theorem take_snoc (s : ByteArray) (k : Nat) (h : k < s.size) : s.data.toList.take (k + 1) = s.data.toList.take k ++ [s[k]] := by
  rw [List.take_succ_eq_append_getElem (by simpa using h)]; rfl
theorem hexL_next (s : ByteArray) (k : Nat) (h : k < s.size) {c : Nat} (hc : (s[k]).toNat = c) : hexL (s.data.toList.take (k + 1)) = hexL (s.data.toList.take k) ++ [figB (c / 16), figB (c % 16)] := by
  rw [take_snoc s k h, hexL_snoc, hc]
theorem take_all (s : ByteArray) (k : Nat) (h : s.size ≤ k) : s.data.toList.take k = s.data.toList := List.take_of_length_le (by simpa using h)
theorem figB_lo (x : Nat) (h : x < 10) : ((figB x).toNat : Int) = 48 + (x : Int) := by simp [figB, h, UInt8.toNat_ofNat']; omega
theorem figB_hi (x : Nat) (h : ¬ x < 10) (h1 : x < 16) : ((figB x).toNat : Int) = 87 + (x : Int) := by simp [figB, h, UInt8.toNat_ofNat']; omega
end Go.Proofs.Ytipippblnbihcak.Kit
namespace Go.Proofs.Ytipippblnbihcak
open Go.RowKit Kit

theorem figure_any (x : Nat) (w : World) (h : x < 16) :
    Calls Try.prog 21 #[.int .i64 x] w fun e w' => e = .returned (.int .u8 ((figB x).toNat : Int)) ∧ w' = w := by
  by_cases h1 : x < 10
  · have HV := hide (figB_lo x h1)
    go_enter Try.func21, Try.ntmps21
    go_wp2
    go_ret
    exact ⟨by rw [HV.out]; rfl, rfl⟩
  · have HV := hide (figB_hi x h1 h)
    go_enter Try.func21, Try.ntmps21
    go_wp2
    go_ret
    exact ⟨by rw [HV.out]; simp; omega, rfl⟩

theorem figure_int (x : Int) (w : World) (h0 : 0 ≤ x) (h1 : x < 16) :
    Calls Try.prog 21 #[.int .i64 x] w fun e w' => e = .returned (.int .u8 ((figB x.toNat).toNat : Int)) ∧ w' = w := by
  obtain ⟨n, rfl⟩ := Int.eq_ofNat_of_zero_le h0
  rw [Int.toNat_natCast]
  exact figure_any n w (by omega)

set_option maxRecDepth 100000 in
set_option maxHeartbeats 800000 in
theorem specHex_yes (s : ByteArray) (w : World) (hs : s.size ≤ 20000) :
    Calls Try.prog 16 #[.string s] w fun e w' => e = .returned (.tuple #[.string ⟨(hexL s.data.toList).toArray⟩, .bool true]) ∧ Below w.heap.size w w' := by
  have b0 : decide ((20000 : Int) < (s.size : Int)) = false := by simp; omega
  go_enter Try.func16, Try.ntmps16
  go_wp2
  go_loopw [4, 5] (fun v i wr => ∃ k : Nat, k ≤ s.size ∧ i = .int .i64 k ∧ Owns wr w.heap.size 5 v (hexL (s.data.toList.take k)) ∧ Below w.heap.size w wr) (fun _ i _ => s.size - (intOf i).toNat)
  case atStart => exact ⟨0, Nat.zero_le _, rfl, Owns.lit0 w _ 5 (Nat.le_refl _), (Below.refl _ _).alloc (Nat.le_refl _) _⟩
  case round =>
    obtain ⟨k, hk, rfl, hown, hb⟩ := hrel
    have hsz := hb.size
    by_cases hlt : k < s.size
    · obtain ⟨c, hc⟩ : ∃ c : Nat, (s[k]).toNat = c := ⟨_, rfl⟩
      have hc1 : c < 256 := by rw [← hc]; exact (s[k]).toNat_lt
      have HN := hide (hexL_next s k hlt hc)
      have hlen : (hexL (s.data.toList.take k)).length + 2 ≤ 1000000000000 := by
        rw [hexL_length, List.length_take]; omega
      obtain ⟨pre, hpre⟩ : ∃ pre, pre = hexL (s.data.toList.take k) := ⟨_, rfl⟩
      rw [← hpre] at hown hlen HN
      have HP := hide hpre
      clear hpre
      have k0 : (0 : Int) ≤ (k : Int) := by omega
      have k1 : (k : Int) < (s.size : Int) := by omega
      obtain ⟨x, hx⟩ : ∃ x : Nat, c / 16 = x := ⟨_, rfl⟩
      obtain ⟨y, hy⟩ : ∃ y : Nat, c % 16 = y := ⟨_, rfl⟩
      have hx1 : x < 16 := by omega
      have hy1 : y < 16 := by omega
      have t1 : IntKind.i64.wrap (c : Int) = (c : Int) := wrapId (by omega) (by omega)
      have t2 : (c : Int).tdiv 16 = (x : Int) := by rw [Int.tdiv_eq_ediv_of_nonneg (by omega)]; omega
      have t3 : (c : Int).tmod 16 = (y : Int) := by rw [Int.tmod_eq_emod_of_nonneg (by omega)]; omega
      have t4 : IntKind.i64.wrap (x : Int) = (x : Int) := wrapId (by omega) (by omega)
      rw [hx, hy] at HN
      clear hx hy
      go_wp2_with fail
      go_region_held3 (fun _ => True) (trivial) (first | (go_at_call 21; refine (figure_any _ _ ?_).mono ?_; assumption; rintro e w' ⟨rfl, rfl⟩) | (refine step_append_two w wr ?_ (.tmp 16) (.tmp 29) 34 ?_ w.heap.size 5 Try.underlying34 Try.info5 _ pre ?_ hown hb hsz (figB x) (figB y) ?_ hlen ?_; rfl; rfl; rfl; rfl; intro v' w1 R1 R2))
      all_goals
        go_wp2
        go_roundw
        case rel => exact ⟨k + 1, by omega, by go_num, by rw [HN.out]; exact R1, R2⟩
        case measure => simp [intOf]; omega
    · have HT := hide (take_all s k (by omega))
      have hcv := conv_own (P := Try.prog) 34 9 5 Try.underlying34 Try.underlying5 Try.underlying9 hown
      rw [HT.out] at hcv
      clear hown
      go_wp2
      go_ret2
      exact ⟨rfl, hb⟩
end Go.Proofs.Ytipippblnbihcak
