/- impl.plainLine, strings.Clone and impl.PartsOf by their contracts. -/
import Derived.Test.YthfiaihbpnlbjaaDoorPartsS
import Derived.Test.YthfiaihbpnlbjaaDoorShelf
namespace Go.Proofs.YthfiaihbpnlbjaaDoor
open Go.RowKit Kit

theorem clone_any (s : ByteArray) (w : World) (h : s.size ≤ 281474976710656) :
    Calls Tryd.prog 32 #[.string s] w fun e w' => e = .returned (.string s) ∧ Below w.heap.size w w' := by
  go_enter Tryd.func32, Tryd.ntmps32
  go_wp2_with (go_at_call 42; refine (Tryd.stringslite_Clone _ _ h).mono ?_; rintro e w1 ⟨rfl, hb⟩)
  go_ret
  exact ⟨rfl, hb⟩

theorem ok_true {s : ByteArray} {b : Bool} {k : Nat} (h : b = true ↔ ∀ c ∈ s.data.toList, okB c) (hk : s.size ≤ k) (ho : ∀ c ∈ s.data.toList.take k, okB c) : b = true := h.2 (by rwa [take_all s k hk] at ho)
theorem ok_false {s : ByteArray} {b : Bool} {k c : Nat} (h : b = true ↔ ∀ c ∈ s.data.toList, okB c) (hk : k < s.size) (hc : (s[k]).toNat = c) (hb : ¬ (32 ≤ c ∧ c ≤ 126)) : b = false := by
  cases b with
  | false => rfl
  | true =>
    have := h.1 rfl s[k] (get_memP s k hk)
    unfold okB at this
    omega
theorem ret_bool {b c : Bool} (h : b = c) : Ending.returned (.bool c) = .returned (.bool b) := by rw [h]

set_option maxRecDepth 100000 in
set_option maxHeartbeats 800000 in
theorem plainLine_any (s : ByteArray) (b : Bool) (w : World) (hB : b = true ↔ ∀ c ∈ s.data.toList, okB c) (hs : s.size ≤ 600) :
    Calls Tryd.prog 30 #[.string s] w fun e w' => e = .returned (.bool b) ∧ Below w.heap.size w w' := by
  have hbs := fun W => run_bytes_of_string (P := Tryd.prog) W 9 54 5 s Tryd.underlying9 Tryd.underlying54 Tryd.underlying5
  have HB := hide hB
  clear hB
  go_enter Tryd.func30, Tryd.ntmps30
  go_wp2
  go_loopw [8] (fun i wr => ∃ k : Nat, k ≤ s.size ∧ i = .int .i64 k ∧ Hid (∀ c ∈ s.data.toList.take k, okB c) ∧ Below w.heap.size w wr ∧ Lies wr w.heap.size s) (fun i _ => s.size - (intOf i).toNat)
  case atStart => exact ⟨0, Nat.zero_le _, rfl, hide (by simp), ((Below.refl _ w).alloc (Nat.le_refl _) _).drew, (lies_new w s _ _ _).of_heap rfl⟩
  case round =>
    obtain ⟨k, hk, rfl, HO, hb, hlies⟩ := hrel
    have HL := hide hlies
    by_cases hlt : k < s.size
    · obtain ⟨c, hc⟩ : ∃ c : Nat, (s[k]).toNat = c := ⟨_, rfl⟩
      have hc1 : c < 256 := by rw [← hc]; exact (s[k]).toNat_lt
      have hcell := hlies.cell k hlt
      rw [hc] at hcell
      have HC := hide hc
      clear hlies hc
      by_cases hpl : 32 ≤ c ∧ c ≤ 126
      · have hp1 := hpl.1
        have hp2 := hpl.2
        clear hpl
        go_wp2
        go_roundw
        case rel => exact ⟨k + 1, by omega, by go_num, hide (take_ok HO.out hlt ⟨by rw [HC.out]; exact hp1, by rw [HC.out]; exact hp2⟩), hb, HL.out⟩
        case measure => simp [intOf]; omega
      · have HP := hide (ok_false HB.out hlt HC.out hpl)
        by_cases hp1 : 32 ≤ c
        · have hp2 : 126 < c := by omega
          clear hpl
          go_wp2
          go_ret
          exact ⟨ret_bool HP.out, hb⟩
        · clear hpl
          go_wp2
          go_ret
          exact ⟨ret_bool HP.out, hb⟩
    · have HP := hide (ok_true HB.out (by omega) HO.out)
      clear hlies
      go_wp2
      go_ret
      exact ⟨ret_bool HP.out, hb⟩

theorem cntF_le (ws : Bool) (l : List UInt8) : Lib.cntF ws l ≤ l.length := by
  induction l generalizing ws with
  | nil => simp [Lib.cntF]
  | cons b r ih =>
    have := ih (Lib.isSp b)
    simp only [Lib.cntF, List.length_cons]
    split <;> omega
theorem fields_le (s : ByteArray) : (Lib.fields s.data.toList).length ≤ s.size := by
  rw [Lib.fields_length]
  have := cntF_le true s.data.toList
  have h2 : s.data.toList.length = s.size := by simp
  omega
theorem field_le : ∀ (l cur : List UInt8), ∀ x ∈ Lib.fieldsGo cur l, x.length ≤ cur.length + l.length := by
  intro l
  induction l with
  | nil =>
    intro cur x hx
    unfold Lib.fieldsGo at hx
    split at hx
    · cases hx
    · simp at hx; subst hx; simp
  | cons b r ih =>
    intro cur x hx
    unfold Lib.fieldsGo at hx
    split at hx
    · split at hx
      · have := ih [] x hx; simp at this ⊢; omega
      · rcases List.mem_cons.1 hx with rfl | h
        · simp
        · have := ih [] x h; simp at this ⊢; omega
    · have := ih _ x hx; simp at this ⊢; omega
theorem set_same {l : List Value} {j : Nat} {u : Value} (h : l[j]? = some u) : l.set j u = l := by
  apply List.ext_getElem?
  intro i
  rw [List.getElem?_set]
  by_cases e : j = i
  · subst e
    have : j < l.length := (List.getElem?_eq_some_iff.1 h).1
    rw [if_pos rfl, if_pos this, h]
  · simp [e]

set_option maxRecDepth 100000 in
set_option maxHeartbeats 1600000 in
theorem implParts_in (s : ByteArray) (w : World) (l : List ByteArray) (ok : Bool) (ha : Ans s l ok) (hs : s.size ≤ 600) (g0 : Nat) (hg : Tryd.prog.globalNamed "strings.asciiSpace" = some g0) (hg0 : g0 < w.heap.size) (htab : Lib.TabIs Tryd.prog w "strings.asciiSpace" .u8 Lib.asciiSpaceTab) :
    Calls Tryd.prog 15 #[.string s] w fun e w' => ∃ v, e = .returned (.tuple #[v, .bool ok]) ∧ ROwns w' w.heap.size 9 v (l.map Value.string) ∧ Below w.heap.size w w' := by
  have HA := hide ha
  have HT := hide htab
  have HG := hide hg
  have b0 : decide ((600 : Int) < (s.size : Int)) = false := by simp; omega
  clear ha htab hg
  go_enter Tryd.func15, Tryd.ntmps15
  by_cases hpl : ∀ c ∈ s.data.toList, okB c
  · have hascii : ∀ (j : Nat) b, s.data.toList[j]? = some b → b.toNat < 128 := fun j b hj => by
      have := hpl b (List.mem_of_getElem? hj)
      unfold okB at this
      omega
    have HP := hide hpl
    have HS := hide hascii
    have G1 := hide (fun w => plainLine_any s true w ⟨fun _ => hpl, fun _ => rfl⟩ hs)
    clear hpl hascii
    go_wp2_with fail
    refine (G1.out _).mono ?_
    rintro e w1 ⟨rfl, hb1⟩
    have HTC := hide (var?_below hb1 HG.out hg0 HT.out)
    go_wp2_with fail
    refine (Tryd.strings_Fields s w1 (by omega) HS.out HTC.out).mono ?_
    obtain ⟨out, hout⟩ : ∃ out : List ByteArray, out = (Lib.fields s.data.toList).map fun x => ⟨x.toArray⟩ := ⟨_, rfl⟩
    have ho1 : (Lib.fields s.data.toList).length = out.length := by rw [hout]; simp
    have ho2 : ((Lib.fields s.data.toList).map fun x => Value.string ⟨x.toArray⟩) = out.map Value.string := by rw [hout]; simp [List.map_map, Function.comp_def]
    have ho3 : Lib.fields s.data.toList = out.map (·.data.toList) := by rw [hout]; simp [List.map_map, Function.comp_def]
    have ho4 : ∀ t ∈ out, t.size ≤ 600 := by
      intro t ht
      have h1 : t.data.toList ∈ Lib.fields s.data.toList := by rw [ho3]; exact List.mem_map_of_mem ht
      have h2 := field_le s.data.toList [] _ h1
      have h3 : t.data.toList.length = t.size := by simp
      have h4 : s.data.toList.length = s.size := by simp
      simp only [List.length_nil] at h2
      omega
    have hl10 : out.length ≤ 600 := by have := fields_le s; omega
    rw [ho1, ho2]
    rintro e w2 ⟨rfl, rfl⟩
    have hsz1 := hb1.size
    have O1 : ROwns (w1.alloc (.cells (out.map Value.string).toArray 9)) w.heap.size 9 (.slice (some ⟨w1.heap.size, 0, none⟩) out.length out.length) (out.map Value.string) := by
      have := ROwns.lit w1 w.heap.size 9 (out.map Value.string).toArray hsz1 (by unfold maxLen; simp; omega)
      simpa using this
    have HD := hide (And.intro HP.out ho3)
    have H4 := hide ho4
    have HO1 := hide O1
    clear ho1 ho2 ho3 hout ho4 O1
    by_cases h10 : 10 < out.length
    · have HN := hide (ans_many HA.out (by rw [HD.out.2]; simpa using h10))
      go_wp2
      go_ret2
      exact bad_ret HN.out (hb1.alloc hsz1 _) (ROwns.nil _ _ _)
    · have b10 : decide ((10 : Int) < (out.length : Int)) = false := by simp; omega
      go_wp2
      go_loopw [22] (fun i wr => ∃ k : Nat, k ≤ out.length ∧ i = .int .i64 k ∧ ROwns wr w.heap.size 9 (.slice (some ⟨w1.heap.size, 0, none⟩) out.length out.length) (out.map Value.string) ∧ Below w.heap.size w wr) (fun i _ => out.length - (intOf i).toNat)
      case atStart => exact ⟨0, Nat.zero_le _, rfl, HO1.out, hb1.alloc hsz1 _⟩
      case round =>
        obtain ⟨k, hk, rfl, hown, hb⟩ := hrel
        by_cases hlt : k < out.length
        · obtain ⟨g, c2, e1, k1, k2, k3, k4, -⟩ := hown.at k (by simpa using hlt)
          simp only [Value.slice.injEq, Option.some.injEq, Addr.mk.injEq] at e1
          obtain ⟨⟨rfl, -, -⟩, -, -⟩ := e1
          obtain ⟨t, ht⟩ : ∃ t, out[k] = t := ⟨_, rfl⟩
          have hts : t.size ≤ 281474976710656 := by have := H4.out t (by rw [← ht]; exact List.getElem_mem hlt); omega
          have hmt : (out.map Value.string)[k]? = some (.string t) := by simp [hlt, ht]
          have hct : wr.cell? ⟨w1.heap.size, k, none⟩ = some (.string t) := by rw [k1, hmt]
          have HSS := hide (set_same hmt)
          have HO := hide hown
          have HTS := hide hts
          have j0 : (0 : Int) ≤ (k : Int) := by omega
          have j1 : (k : Int) < (out.length : Int) := by omega
          clear hown k1 ht hmt hts
          go_wp2_with (go_at_call 32; refine (clone_any _ _ HTS.out).mono ?_; rintro e w3 ⟨rfl, hb3⟩; have q1 : w3.cell? ⟨w1.heap.size, k, none⟩ = some (.string t) := (hb3.cell (p := ⟨w1.heap.size, k, none⟩) k4).trans hct; have q2 : w3.frozen? ⟨w1.heap.size, k, none⟩ = false := (hb3.frozen (p := ⟨w1.heap.size, k, none⟩) k4).trans k2)
          have hll : (out.map Value.string).length = out.length := by simp
          have O3 : ROwns w3 w.heap.size 9 (.slice (some ⟨w1.heap.size, 0, none⟩) (out.map Value.string).length out.length) (out.map Value.string) := by rw [hll]; exact HO.out.below hb3 (Nat.le_refl _)
          have O4 := (O3.stored k (.string t)).1
          rw [HSS.out, hll] at O4
          have O5 : Below w.heap.size w (w3.setCell ⟨w1.heap.size, k, none⟩ (.string t)) := (hb.trans (hb3.mono hb.size)).setCell (p := ⟨w1.heap.size, k, none⟩) hsz1 _
          go_roundw
          case rel => exact ⟨k + 1, by omega, by go_num, O4, O5⟩
          case measure => simp [intOf]; omega
        · have HO := hide hown
          clear hown
          go_wp2
          go_ret2
          exact good_ret HA.out hs HD.out (by omega) hb HO.out
  · have hno : ok = false ∧ l = [] := HA.out.2 fun hh => hpl hh.2.1
    have HN := hide hno
    have G1 := hide (fun w => plainLine_any s false w ⟨fun h => (by cases h), fun h => absurd h hpl⟩ hs)
    clear hpl hno
    go_wp2_with fail
    refine (G1.out _).mono ?_
    rintro e w1 ⟨rfl, hb1⟩
    go_wp2
    go_ret2
    exact bad_ret HN.out hb1 (ROwns.nil _ _ _)
theorem implParts_long (s : ByteArray) (w : World) (l : List ByteArray) (ok : Bool) (ha : Ans s l ok) (hs : 600 < s.size) :
    Calls Tryd.prog 15 #[.string s] w fun e w' => ∃ v, e = .returned (.tuple #[v, .bool ok]) ∧ ROwns w' w.heap.size 9 v (l.map Value.string) ∧ Below w.heap.size w w' := by
  have HN := hide (ans_long ha hs)
  clear ha
  go_enter Tryd.func15, Tryd.ntmps15
  go_wp2
  go_ret2
  exact bad_ret HN.out (Below.refl _ _) (ROwns.nil _ _ _)
end Go.Proofs.YthfiaihbpnlbjaaDoor
