/- spec.l02Spoilt by its contract: a text that is hardly longer. -/
import Derived.Test.YtfffiboggpjjkaaAny2
import Derived.Deep.RegionHeld3
namespace Go.Proofs.Ytfffiboggpjjkaa
open Go.RowKit Kit
/-- What a drawn text is. -/
def DrawnT (w0 w w' : World) (c : Nat) (a : Option Addr) (len cap : Nat) (e : Ending) : Prop := ∃ t : ByteArray, t.size ≤ 6000 ∧ e = .returned (.string t) ∧ Drew w0 w w' c a len cap
theorem arr_size {l : List UInt8} {n : Nat} (h : l.length = n) : (⟨l.toArray⟩ : ByteArray).size = n := by simp [ByteArray.size, h]

set_option maxRecDepth 100000 in
set_option maxHeartbeats 1600000 in
theorem spoilt_any (w0 w : World) (c : Nat) (a : Option Addr) (len cap : Nat) (s : ByteArray) (hcode : CodeIs w0 a len) (hlen : len ≤ 1048576) (hcur : Cur 78 w0 w c a len cap) (hcw : c < w.heap.size) (hs : s.size ≤ 5000) :
    Calls Try.prog 38 #[.pointer (some ⟨c, 0, none⟩), .string s] w fun e w' => DrawnT w0 w w' c a len cap e := by
  have HC := hide hcur
  have HO := hide hcode
  clear hcur hcode
  go_enter Try.func38, Try.ntmps38
  go_wp2_with fail
  refine (below_any w0 w c a len cap 12 HO.out hlen HC.out (by decide) (by decide)).mono ?_
  rintro e w1 ⟨y, -, rfl, D1⟩
  have HD := hide D1
  have hc1 : c < w1.heap.size := by have := D1.2.size; omega
  clear D1
  by_cases h0 : y = 0
  · subst h0
    go_wp2_with fail
    refine (text_any w0 w1 c a len cap 1 HO.out hlen HD.out.cur hc1 (by decide)).mono ?_
    rintro e w2 ⟨t, ht, rfl, D2⟩
    have hsz := arr_size ht
    generalize (⟨t.toArray⟩ : ByteArray) = T at *
    have HD2 := hide (HD.out.trans D2)
    have HZ := hide (show (s ++ T).size ≤ 6000 by rw [ByteArray.size_append]; omega)
    clear D2
    go_wp2
    go_ret
    exact ⟨_, HZ.out, rfl, HD2.out⟩
  have y0 : ((y : Int) == 0) = false := by simp; omega
  by_cases h1 : y = 1
  · subst h1
    go_wp2_with fail
    have HB := hide (below_any w0 w1 c a len cap (s.size + 1) HO.out hlen HD.out.cur (by omega) (by omega))
    refine HB.out.mono ?_
    rintro e w2 ⟨n, hn, rfl, D2⟩
    have HD2 := hide (HD.out.trans D2)
    have HZ := hide (show (s.extract 0 n).size ≤ 6000 by rw [ByteArray.size_extract]; omega)
    have n0 : (0 : Int) ≤ (n : Int) := by omega
    have n1 : (n : Int) ≤ (s.size : Int) := by omega
    clear D2 HB
    go_wp2
    go_ret
    exact ⟨_, HZ.out, rfl, HD2.out⟩
  have y1 : ((y : Int) == 1) = false := by simp; omega
  by_cases h2 : y = 2 ∨ y = 3
  · by_cases hz : s.size = 0
    · have b0 : decide ((0 : Int) < (s.size : Int)) = false := decide_eq_false (by omega)
      have hz' : (s.size : Int) = 0 := by omega
      rcases h2 with rfl | rfl
      · go_wp2
        go_ret
        exact ⟨s, by omega, rfl, HD.out⟩
      · go_wp2
        go_ret
        exact ⟨s, by omega, rfl, HD.out⟩
    · have b0 : decide ((0 : Int) < (s.size : Int)) = true := decide_eq_true (by omega)
      have b1 : (0 : Int) < (s.size : Int) := by omega
      clear y0 y1 h0 h1
      rcases h2 with rfl | rfl
      · go_wp2_with fail
        refine (below_any w0 w1 c a len cap s.size HO.out hlen HD.out.cur (by omega) (by omega)).mono ?_
        rintro e w2 ⟨i, hi, rfl, D2⟩
        have HD2 := hide (HD.out.trans D2)
        have hc2 : c < w2.heap.size := by have := D2.2.size; omega
        have i0 : (0 : Int) ≤ (i : Int) := by omega
        have i1 : (i : Int) ≤ (s.size : Int) := by omega
        have i2 : (0 : Int) ≤ (i : Int) + 1 := by omega
        have i3 : (i : Int) + 1 ≤ (s.size : Int) := by omega
        have e1 : (s.extract 0 i).size = i := by rw [ByteArray.size_extract]; omega
        have e2 : (s.extract (i + 1) s.size).size = s.size - (i + 1) := by rw [ByteArray.size_extract]; omega
        have wr : IntKind.i64.wrap ((i : Int) + 1) = (i : Int) + 1 := wrapId (by omega) (by omega)
        have tn : ((i : Int) + 1).toNat = i + 1 := by omega
        have u1 : ¬ 9223372036854775807 < i + 1 := by omega
        have u2 : ¬ 9223372036854775807 < i + 1 + (s.size - (i + 1)) := by omega
        clear D2 HD hc1
        go_wp2
        go_region_held3 (fun _ => True) (trivial) (first | (go_at_call 59; refine (text_any w0 _ c a len cap 1 HO.out hlen HD2.out.drew.cur hc2 (by decide)).mono ?_; rintro e w3 ⟨t, ht, rfl, D3⟩; have hsz := arr_size ht; generalize (⟨t.toArray⟩ : ByteArray) = T at *))
        have HD3 := hide (HD2.out.drew.trans D3)
        have HZ := hide (show (s.extract 0 i ++ T ++ s.extract (i + 1) s.size).size ≤ 6000 by rw [ByteArray.size_append, ByteArray.size_append, e1, e2, hsz]; omega)
        clear D3
        go_wp2
        go_ret
        exact ⟨_, HZ.out, rfl, HD3.out⟩
      · go_wp2_with fail
        refine (below_any w0 w1 c a len cap s.size HO.out hlen HD.out.cur (by omega) (by omega)).mono ?_
        rintro e w2 ⟨i, hi, rfl, D2⟩
        have HD2 := hide (HD.out.trans D2)
        have hc2 : c < w2.heap.size := by have := D2.2.size; omega
        have i0 : (0 : Int) ≤ (i : Int) := by omega
        have i1 : (i : Int) ≤ (s.size : Int) := by omega
        have i2 : (0 : Int) ≤ (i : Int) + 1 := by omega
        have i3 : (i : Int) + 1 ≤ (s.size : Int) := by omega
        have e1 : (s.extract 0 i).size = i := by rw [ByteArray.size_extract]; omega
        have e2 : (s.extract (i + 1) s.size).size = s.size - (i + 1) := by rw [ByteArray.size_extract]; omega
        have wr : IntKind.i64.wrap ((i : Int) + 1) = (i : Int) + 1 := wrapId (by omega) (by omega)
        have tn : ((i : Int) + 1).toNat = i + 1 := by omega
        have u1 : ¬ 9223372036854775807 < i + 1 := by omega
        have u2 : ¬ 9223372036854775807 < i + 1 + (s.size - (i + 1)) := by omega
        clear D2 HD hc1
        go_wp2
        go_region_held3 (fun _ => True) (trivial) (first | (go_at_call 59; refine (text_any w0 _ c a len cap 1 HO.out hlen HD2.out.drew.cur hc2 (by decide)).mono ?_; rintro e w3 ⟨t, ht, rfl, D3⟩; have hsz := arr_size ht; generalize (⟨t.toArray⟩ : ByteArray) = T at *))
        have HD3 := hide (HD2.out.drew.trans D3)
        have HZ := hide (show (s.extract 0 i ++ T ++ s.extract (i + 1) s.size).size ≤ 6000 by rw [ByteArray.size_append, ByteArray.size_append, e1, e2, hsz]; omega)
        clear D3
        go_wp2
        go_ret
        exact ⟨_, HZ.out, rfl, HD3.out⟩
  · have y2 : ((y : Int) == 2) = false := by simp; omega
    have y3 : ((y : Int) == 3) = false := by simp; omega
    clear h0 h1 h2
    go_wp2
    go_ret
    exact ⟨s, by omega, rfl, HD.out⟩
end Go.Proofs.Ytfffiboggpjjkaa
