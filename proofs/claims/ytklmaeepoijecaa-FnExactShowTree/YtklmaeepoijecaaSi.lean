/- impl.shownLine, impl.shownNode, impl.ShowTree by their contracts. -/
import Derived.Test.YtklmaeepoijecaaSp
import Derived.Test.YtklmaeepoijecaaShelf
namespace Go.Proofs.Ytklmaeepoijecaa
open Go.RowKit Kit
theorem owns_below {w w' : World} {B e n : Nat} {v : Value} {xs : List Value} (h : w.ownsRow B e 1 v n xs) (hb : Below w.heap.size w w') : w'.ownsRow B e 1 v n xs := by
  refine ⟨h.1, ?_⟩
  rcases h.2 with h | ⟨g, cap, cur, h1, h2, h3, h4⟩
  · exact .inl h
  · refine .inr ⟨g, cap, cur, h1, h2, ?_, h4⟩
    rw [hb.block g (by rw [Array.getElem?_eq_some_iff] at h3; exact h3.1)]
    exact h3
theorem bat_below {w w' : World} {T e B b : Nat} {p : Value} {bs : List Value} (h : Lib.BuilderAt T e B b p bs w) (hb : Below w.heap.size w w') : Lib.BuilderAt T e B b p bs w' := by
  have hl := h.lt
  obtain ⟨h0, v, h1, h2, h3⟩ := h
  exact ⟨h0, v, (hb.block b hl).trans h1, owns_below h2 hb, h3⟩
theorem isb_below {w w' : World} {T e B b : Nat} {bs : List Value} (h : Lib.IsBuilder T e B b bs w) (hb : Below w.heap.size w w') : Lib.IsBuilder T e B b bs w' := h.imp (bat_below · hb) (bat_below · hb)
theorem writeString_any (B b : Nat) (bs : List Value) (s : ByteArray) (w : World) (h : Lib.IsBuilder 37 5 B b bs w) (hlen : bs.length + s.size ≤ 140737488355328) (hBw : B ≤ w.heap.size) :
    Calls Try.prog 11 #[.pointer (some ⟨b, 0, none⟩), .string s] w fun e w' => e = .returned (.tuple #[.int .i64 s.size, .nilIface]) ∧ (Lib.BuilderAt 37 5 B b (.pointer (some ⟨b, 0, none⟩)) (bs ++ Lib.strCells s) w' ∧ Below B w w') :=
  Any.Builder_WriteString { Try.lays156 with } Try.Builder_Extra_156 B b bs s w h hlen hBw
/-- The parts of a line, one behind the other, and its end. -/
def lineS (ps : List ByteArray) : ByteArray := ⟨(Lib.join (ps.map (·.data.toList)) ((⟨#[]⟩ : ByteArray).data.toList)).toArray⟩ ++ ⟨#[10]⟩
set_option maxRecDepth 100000 in
set_option maxHeartbeats 800000 in
theorem shownLine_any (bk o c : Nat) (ps : List ByteArray) (w : World) (hcells : ∀ (j : Nat) x, ps[j]? = some x → w.cell? ⟨bk, o + j, none⟩ = some (.string x)) (hbk : bk < w.heap.size) (hN : ps.length ≤ 100) (hcap : ps.length ≤ c) (hlen : (lineS ps).size ≤ 1000000000) :
    Calls Try.prog 16 #[.slice (some ⟨bk, o, none⟩) ps.length c] w fun e w' => e = .returned (.string (lineS ps)) ∧ Below w.heap.size w w' := by
  have HL : Hid (∃ s : ByteArray, (⟨(Lib.join (ps.map (·.data.toList)) ((⟨#[]⟩ : ByteArray).data.toList)).toArray⟩ : ByteArray) = s ∧ s.size ≤ 1000000000 ∧ lineS ps = s ++ ⟨#[10]⟩) := hide ⟨_, rfl, Nat.le_trans (by rw [lineS, ByteArray.size_append]; exact Nat.le_add_right _ _) hlen, rfl⟩
  have HC := hide (Try.strings_Join bk o c ps ⟨#[]⟩ w hcells hbk (by omega) hcap (by
    obtain ⟨s, h1, h2, -⟩ := HL.out
    have : (Lib.join (ps.map (·.data.toList)) ((⟨#[]⟩ : ByteArray).data.toList)).length = s.size := by rw [← h1]; simp [ByteArray.size]
    omega))
  obtain ⟨s, h1, h2, h3⟩ := HL.out
  rw [h1] at HC
  rw [h3]
  clear h1 h3 HL hcells hlen
  go_enter Try.func16, Try.ntmps16
  go_wp2_with fail
  refine HC.out.mono ?_
  rintro e w1 ⟨rfl, B1⟩
  have HB := hide B1
  clear B1
  go_wp2
  go_ret
  exact ⟨rfl, HB.out⟩
theorem new_cell (w : World) (o : Obj) (cs : List Value) (T : TypeId) (j : Nat) : ((w.alloc o).alloc (.cells cs.toArray T)).cell? ⟨w.heap.size + 1, 0 + j, none⟩ = cs[j]? := by
  have h := (At.new (w.alloc o) T cs).cell j
  rw [show (w.alloc o).heap.size = w.heap.size + 1 by simp] at h
  rw [Nat.zero_add]
  exact h
def nodeS (x : Nd) : ByteArray := if x.2.1 = true then lineS [x.1, ⟨#[47]⟩] else lineS [x.1, ⟨#[32]⟩, x.2.2.1, x.2.2.2]
theorem join0 (l : List (List UInt8)) : Lib.join l [] = l.flatten := by
  cases l with
  | nil => rfl
  | cons a r =>
    rw [Lib.join_cons]
    have : ∀ r : List (List UInt8), Lib.joinTail [] r = r.flatten := by
      intro r
      induction r with
      | nil => rfl
      | cons b r ih => simp [Lib.joinTail]
    rw [this, List.flatten_cons]
theorem bytes_ext {a b : ByteArray} (h : a.data.toList = b.data.toList) : a = b := by
  cases a; cases b; simp only [ByteArray.mk.injEq]; exact Array.ext' h
theorem showB_node (a : ByteArray) (x : Nd) : showB a x = a ++ nodeS x := by
  obtain ⟨p, d, s, t⟩ := x
  refine bytes_ext ?_
  cases d <;> simp [showB, nodeS, lineS, join0, ByteArray.data_append]
theorem nodeS_size (x : Nd) : (nodeS x).size ≤ x.1.size + x.2.2.1.size + x.2.2.2.size + 2 := by
  have h := showB_node ⟨#[]⟩ x
  have h2 := showB_size ⟨#[]⟩ x
  rw [h, ByteArray.size_append] at h2
  have : (⟨#[]⟩ : ByteArray).size = 0 := rfl
  omega
set_option maxRecDepth 100000 in
set_option maxHeartbeats 800000 in
theorem shownNode_any (x0 : ByteArray) (x1 : Bool) (x2 x3 : ByteArray) (w : World) (hs : x0.size + x2.size + x3.size ≤ 1048576) :
    Calls Try.prog 12 #[.agg #[.string x0, .bool x1, .string x2, .string x3]] w fun e w' => e = .returned (.string (nodeS (x0, x1, x2, x3))) ∧ Below w.heap.size w w' := by
  have hz := nodeS_size (x0, x1, x2, x3)
  simp only at hz
  have HZ := hide hz
  clear hz
  go_enter Try.func12, Try.ntmps12
  cases x1 with
  | true =>
    have e : nodeS (x0, true, x2, x3) = lineS [x0, ⟨#[47]⟩] := rfl
    rw [e] at HZ ⊢
    go_wp2_with fail
    refine (shownLine_any (w.heap.size + 1) 0 2 [x0, ⟨#[47]⟩] _ ?_ (by simp) (by simp) (by simp) (by have := HZ.out; omega)).mono ?_
    · intro j x hj
      match j, hj with
      | 0, hj => simp at hj; subst hj; exact new_cell w _ [.string x0, .string ⟨#[47]⟩] 9 0
      | 1, hj => simp at hj; subst hj; exact new_cell w _ [.string x0, .string ⟨#[47]⟩] 9 1
    · rintro e w1 ⟨rfl, B1⟩
      have HB := hide B1
      clear B1
      go_wp2
      go_ret
      exact ⟨rfl, by have b := HB.out; exact (((Below.refl _ w).alloc (Nat.le_refl _) _).alloc (by simp) _).trans (b.mono (by simp; omega))⟩
  | false =>
    have e : nodeS (x0, false, x2, x3) = lineS [x0, ⟨#[32]⟩, x2, x3] := rfl
    rw [e] at HZ ⊢
    go_wp2_with fail
    refine (shownLine_any (w.heap.size + 1) 0 4 [x0, ⟨#[32]⟩, x2, x3] _ ?_ (by simp) (by simp) (by simp) (by have := HZ.out; omega)).mono ?_
    · intro j x hj
      match j, hj with
      | 0, hj => simp at hj; subst hj; exact new_cell w _ [.string x0, .string ⟨#[32]⟩, .string x2, .string x3] 9 0
      | 1, hj => simp at hj; subst hj; exact new_cell w _ [.string x0, .string ⟨#[32]⟩, .string x2, .string x3] 9 1
      | 2, hj => simp at hj; subst hj; exact new_cell w _ [.string x0, .string ⟨#[32]⟩, .string x2, .string x3] 9 2
      | 3, hj => simp at hj; subst hj; exact new_cell w _ [.string x0, .string ⟨#[32]⟩, .string x2, .string x3] 9 3
    · rintro e w1 ⟨rfl, B1⟩
      have HB := hide B1
      clear B1
      go_wp2
      go_ret
      exact ⟨rfl, by have b := HB.out; exact (((Below.refl _ w).alloc (Nat.le_refl _) _).alloc (by simp) _).trans (b.mono (by simp; omega))⟩
end Go.Proofs.Ytklmaeepoijecaa
