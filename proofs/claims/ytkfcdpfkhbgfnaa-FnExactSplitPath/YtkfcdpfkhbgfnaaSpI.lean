/- Of the program: CutPrefix of the mark, withName and SplitPath by their contracts. -/
import Derived.Test.YtkfcdpfkhbgfnaaSpS
import Derived.Test.YtkfcdpfkhbgfnaaShelf
namespace Go.Proofs.Ytkfcdpfkhbgfnaa
open Go.RowKit Kit
theorem begins_cut {p : ByteArray} (h : begins p) : ((p.extract 0 1).toList == ([47] : List UInt8)) = true := by
  obtain ⟨h0, hc⟩ := h
  have hz : (p.extract 0 1).size = 1 := by rw [ByteArray.size_extract]; omega
  have e : (p.extract 0 1)[0] = p[0] := by rw [ByteArray.getElem_extract]
  rw [one_iff (p.extract 0 1) (by omega) (by rw [e]; exact hc)]
  exact decide_eq_true hz
theorem begins_not {p : ByteArray} (h : ¬ begins p) (h0 : 0 < p.size) : ((p.extract 0 1).toList == ([47] : List UInt8)) = false := by
  have hz : (p.extract 0 1).size = 1 := by rw [ByteArray.size_extract]; omega
  have e : (p.extract 0 1)[0] = p[0] := by rw [ByteArray.getElem_extract]
  apply beq_eq_false_iff_ne.mpr
  intro q
  apply h
  refine ⟨h0, ?_⟩
  rw [ByteArray.toList_eq] at q
  have e2 : (p.extract 0 1).data.toList[0]? = some 47 := by rw [q]; rfl
  rw [Array.getElem?_toList] at e2
  have e3 : (p.extract 0 1)[0] = 47 := Option.some.inj ((Array.getElem?_eq_getElem (by exact (by omega : 0 < (p.extract 0 1).size))).symm.trans e2)
  rw [← e, e3]; rfl
theorem hasPrefix_yes (p : ByteArray) (w : World) (h : begins p) :
    Calls Try.prog 17 #[.string p, .string ⟨#[47]⟩] w fun e w' => e = .returned (.bool true) ∧ w' = w := by
  have hc := begins_cut h
  obtain ⟨h0, -⟩ := h
  have h1 : (1 : Int) ≤ (p.size : Int) := by omega
  go_enter Try.func17, Try.ntmps17
  go_wp2
  go_ret
  exact ⟨rfl, rfl⟩
theorem hasPrefix_no (p : ByteArray) (w : World) (h : ¬ begins p) :
    Calls Try.prog 17 #[.string p, .string ⟨#[47]⟩] w fun e w' => e = .returned (.bool false) ∧ w' = w := by
  by_cases h0 : 0 < p.size
  · have hc := begins_not h h0
    have h1 : (1 : Int) ≤ (p.size : Int) := by omega
    go_enter Try.func17, Try.ntmps17
    go_wp2
    go_ret
    exact ⟨rfl, rfl⟩
  · have h1 : ¬ (1 : Int) ≤ (p.size : Int) := by omega
    go_enter Try.func17, Try.ntmps17
    go_wp2
    go_ret
    exact ⟨rfl, rfl⟩
theorem cut_yes (p : ByteArray) (w : World) (h : begins p) :
    Calls Try.prog 14 #[.string p, .string ⟨#[47]⟩] w fun e w' => e = .returned (.tuple #[.string (p.extract 1 p.size), .bool true]) ∧ w' = w := by
  have HH := hide h
  obtain ⟨h0, -⟩ := h
  have h1 : (1 : Int) ≤ (p.size : Int) := by omega
  go_enter Try.func14, Try.ntmps14
  go_wp2_with (go_at_call 17; refine (hasPrefix_yes p _ HH.out).mono ?_; rintro e w2 ⟨rfl, rfl⟩)
  go_ret2
  exact ⟨rfl, rfl⟩
theorem cut_no (p : ByteArray) (w : World) (h : ¬ begins p) :
    Calls Try.prog 14 #[.string p, .string ⟨#[47]⟩] w fun e w' => e = .returned (.tuple #[.string p, .bool false]) ∧ w' = w := by
  have HH := hide h
  clear h
  go_enter Try.func14, Try.ntmps14
  go_wp2_with (go_at_call 17; refine (hasPrefix_no p _ HH.out).mono ?_; rintro e w2 ⟨rfl, rfl⟩)
  go_ret2
  exact ⟨rfl, rfl⟩
theorem cutPrefix_yes (p : ByteArray) (w : World) (h : begins p) :
    Calls Try.prog 10 #[.string p, .string ⟨#[47]⟩] w fun e w' => e = .returned (.tuple #[.string (p.extract 1 p.size), .bool true]) ∧ w' = w := by
  have HH := hide h
  clear h
  go_enter Try.func10, Try.ntmps10
  go_wp2_with (go_at_call 14; refine (cut_yes p _ HH.out).mono ?_; rintro e w2 ⟨rfl, rfl⟩)
  go_ret2
  exact ⟨rfl, rfl⟩
theorem cutPrefix_no (p : ByteArray) (w : World) (h : ¬ begins p) :
    Calls Try.prog 10 #[.string p, .string ⟨#[47]⟩] w fun e w' => e = .returned (.tuple #[.string p, .bool false]) ∧ w' = w := by
  have HH := hide h
  clear h
  go_enter Try.func10, Try.ntmps10
  go_wp2_with (go_at_call 14; refine (cut_no p _ HH.out).mono ?_; rintro e w2 ⟨rfl, rfl⟩)
  go_ret2
  exact ⟨rfl, rfl⟩
theorem clone_any (s : ByteArray) (w : World) (h : s.size ≤ 1048576) :
    Calls Try.prog 16 #[.string s] w fun e w' => e = .returned (.string s) ∧ Below w.heap.size w w' := by
  have HH := hide h
  go_enter Try.func16, Try.ntmps16
  go_wp2_with (go_at_call 18; refine (Try.stringslite_Clone s _ (by have := HH.out; omega)).mono ?_; rintro e w2 ⟨rfl, B2⟩)
  go_ret
  exact ⟨rfl, B2⟩
theorem withName_full (v : Value) (l : List ByteArray) (base : Nat) (s : ByteArray) (w : World) (ho : ROwns w base 9 v (sc l)) (h4 : l.length = 4) :
    Calls Try.prog 11 #[v, .string s] w fun e w' => e = .returned (.tuple #[.slice none 0 0, .bool false]) ∧ w' = w := by
  obtain ⟨a, c, rfl, -⟩ := ho.form
  rw [sc_length, h4]
  clear ho
  go_enter Try.func11, Try.ntmps11
  go_wp2
  go_ret2
  exact ⟨rfl, rfl⟩
theorem withName_bad (v : Value) (l : List ByteArray) (base : Nat) (s : ByteArray) (w : World) (ho : ROwns w base 9 v (sc l)) (h4 : l.length < 4) (hn : nameOk s = false) :
    Calls Try.prog 11 #[v, .string s] w fun e w' => e = .returned (.tuple #[.slice none 0 0, .bool false]) ∧ Below w.heap.size w w' := by
  obtain ⟨a, c, rfl, -⟩ := ho.form
  obtain ⟨n, hl⟩ : ∃ n, l.length = n := ⟨_, rfl⟩
  rw [sc_length, hl]
  rw [hl] at h4
  clear ho hl
  have h4i : ((n : Int) == 4) = false := beq_eq_false_iff_ne.mpr (by omega)
  have HN := hide hn
  clear hn
  go_enter Try.func11, Try.ntmps11
  go_wp2_with (go_at_call 15; refine (implName_any s _).mono ?_; rw [HN.out]; rintro e w2 ⟨rfl, B2⟩)
  go_ret2
  exact ⟨rfl, B2⟩
set_option maxRecDepth 100000 in
set_option maxHeartbeats 1600000 in
theorem withName_ok (v : Value) (l : List ByteArray) (base : Nat) (s : ByteArray) (w : World) (hbase : base ≤ w.heap.size) (ho : ROwns w base 9 v (sc l)) (h4 : l.length < 4) (hn : nameOk s = true) :
    Calls Try.prog 11 #[v, .string s] w fun e w' => ∃ v', e = .returned (.tuple #[v', .bool true]) ∧ ROwns w' base 9 v' (sc (l ++ [s])) ∧ w.grownBy w' v.ownBlock := by
  have hsz := nameOk_size hn
  obtain ⟨a, c, hv, -⟩ := ho.form
  obtain ⟨n, hl⟩ : ∃ n, l.length = n := ⟨_, rfl⟩
  rw [sc_length, hl] at hv
  rw [hl] at h4
  have HL : Hid ((sc l).length ≤ 100000000000) := by show _ ≤ _; rw [sc_length]; omega
  have HO := hide ho
  have HBS := hide hbase
  clear ho hl hbase
  have h4i : ((n : Int) == 4) = false := beq_eq_false_iff_ne.mpr (by omega)
  have HN := hide hn
  clear hn
  subst hv
  go_enter Try.func11, Try.ntmps11
  go_wp2_with (first
    | (go_at_call 15; refine (implName_any s _).mono ?_; rw [HN.out]; rintro e w2 ⟨rfl, B2⟩; have HB2 := hide B2; clear B2)
    | (go_at_call 16; refine (clone_any s _ (by omega)).mono ?_; rintro e w3 ⟨rfl, B3⟩; have HB3 : Hid (Below w.heap.size w w3) := HB2.out.trans (B3.mono HB2.out.size); have HB4 : Hid (Below w.heap.size w (w3.alloc (.cells #[.string s] 9))) := HB3.out.alloc HB3.out.size _; have HT : Hid (ROwns (w3.alloc (.cells #[.string s] 9)) base 9 (.slice a n c) (sc l)) := HO.out.below HB4.out (Nat.le_refl _); have HK2 : Hid ((w3.alloc (.cells #[.string s] 9)).cell? ⟨w3.heap.size, 0, none⟩ = some (.string s)) := one_cell w3 9 (.string s); have HSZ : Hid (base ≤ (w3.alloc (.cells #[.string s] 9)).heap.size) := Nat.le_trans HBS.out HB4.out.size; clear B3)
    | (at_builtin; refine wpList_step fun K' hK' => ?_; refine step_append_one _ rfl (.tmp 14) (.tmp 17) 22 rfl base 9 Try.u22s _ 16 Try.i9s rfl (by decide) (.slice a n c) _ rfl HT.out HSZ.out w3.heap.size (.string s) rfl HK2.out rfl HL.out ?_; intro v12 w12 T12 G12 V12; refine hK' _ _ ?_; have HR12 := hide (And.intro T12 (grownBy_trans (grownBy_below HB4.out _) G12)); clear T12 G12 V12 hK'))
  go_ret2
  exact ⟨_, rfl, by rw [sc_append]; exact HR12.out.1, HR12.out.2⟩
end Go.Proofs.Ytkfcdpfkhbgfnaa
