/- impl.Hex by its contract, and the walk of laws.FnExactHex: it returns true at every text. -/
import Derived.Test.YtipippblnbihcakHexS
namespace Go.Proofs.Ytipippblnbihcak.Kit
open Go.RowKit

/-- Blocks that v does not own stay as they were, and v' does not own them either. -/
def Keeps (w w' : World) (v v' : Value) : Prop := ∀ B, B < w.heap.size → v.ownBlock ≠ some B → v'.ownBlock ≠ some B ∧ w'.heap[B]? = w.heap[B]?

theorem step_append_keeps {P : Program} (w0 w : World) {ops : Array Oper} {o : Oper} {a : Act} {K : Act → World → Prop} {Q : Exit → Act → World → Prop} {E : Prop} (hgd : o.guard = none) (s x : Operand) (t : TypeId)
    (ho : o.op = .call { callee := .builtin .append, args := #[s, x], argTypes := #[t, t] }) (base : Nat) (e : TypeId) (ht : P.underlying t = some (.slice e))
    (hi : (P.info? e).map (fun i => (i.zero, i.size, i.bytes)) = some (some (.int .u8 0), 1, 1)) (v : Value) (pre : List UInt8) (hs : a.eval s = v) (hown : Owns w base e v pre)
    (hb : Below base w0 w) (hbase : base ≤ w.heap.size) (b1 b2 : UInt8) (hx : a.eval x = .slice (some ⟨w.heap.size, 0, none⟩) 2 2) (hl : pre.length + 2 ≤ 1000000000000)
    (h : ∀ v' w', Owns w' base e v' (pre ++ [b1, b2]) → Below base w0 w' → Keeps w w' v v' → K (a.put o.dst v') w') :
    if Region.wanted o (yielded ops a.tmps) = true then Oper.wp P o a (w.alloc (.cells #[.int .u8 (b1.toNat : Int), .int .u8 (b2.toNat : Int)] e)).drew K Q else E := by
  obtain ⟨i0, hi, hz0, hz1, hz2⟩ := info_parts hi
  have hown2 : (w.alloc (.cells #[.int .u8 (b1.toNat : Int), .int .u8 (b2.toNat : Int)] e)).drew.ownsRow base e 1 v pre.length (bc pre) := (hown.alloc _).drew
  refine step_append_lies _ hgd s x t ho base e i0 (.int .u8 0) 1 1 ht hi hz0 hz1 hz2 rfl (by decide) v pre.length (bc pre) hs hown2 ⟨w.heap.size, 0, none⟩ 2 2 (bc [b1, b2]) hx rfl ?_ ?_ (by decide) ?_ ?_ (by simp; omega) (w.heap.size + 1) (by simp) ?_
  · intro j u hj
    match j, hj with
    | 0, hj => simp [bc] at hj; subst hj; simp [Addr.add]
    | 1, hj => simp [bc] at hj; subst hj; simp [Addr.add]
    | j + 2, hj => simp [bc] at hj
  · intro u hu
    simp only [bc, List.mem_map] at hu
    obtain ⟨b, _, rfl⟩ := hu
    rfl
  · unfold maxLen; omega
  · omega
  · intro g' cap w' hown' hgrow hat _
    refine h _ w' ?_ ((hb.alloc hbase _).drew.grown hgrow (by simp; omega) fun k hk => (hown2.lt k hk).1) ?_
    · unfold Owns
      rw [bc_append, List.length_append]
      exact hown'
    · intro B hB hne
      constructor
      · intro hc
        simp only [Value.ownBlock, Option.some.injEq] at hc
        subst hc
        rcases hat with hat | hat
        · exact hne hat
        · omega
      · rw [hgrow.block B (by simp; omega) (fun e => hne e.symm)]
        exact Below.heap_alloc _ _ _ hB

theorem Owns.grown_none {w w' : World} {base : Nat} {e : TypeId} {v : Value} {l : List UInt8} (h : Owns w base e v l) (hg : w.grownBy w' none) (hv : v.ownBlock ≠ none) : Owns w' base e v l :=
  World.ownsRow.kept h hg (.inr hv)

/-- The bytes of s lie in block B. -/
def Lies (w : World) (B : Nat) (s : ByteArray) : Prop := ∃ cur e fr, w.heap[B]? = some (.cells cur e fr) ∧ ∀ (k : Nat) (h : k < s.size), cur[k]? = some (.int .u8 (s[k].toNat : Int))
theorem Lies.cell {w : World} {B : Nat} {s : ByteArray} (h : Lies w B s) (k : Nat) (hk : k < s.size) : w.cell? ⟨B, k, none⟩ = some (.int .u8 (s[k].toNat : Int)) := by
  obtain ⟨cur, e, fr, h1, h2⟩ := h
  rw [cell_of_row w B k cur e fr h1, h2 k hk]
theorem Lies.of_heap {w w' : World} {B : Nat} {s : ByteArray} (h : Lies w B s) (he : w'.heap[B]? = w.heap[B]?) : Lies w' B s := by
  obtain ⟨cur, e, fr, h1, h2⟩ := h
  exact ⟨cur, e, fr, by rw [he, h1], h2⟩
theorem Lies.lt {w : World} {B : Nat} {s : ByteArray} (h : Lies w B s) : B < w.heap.size := by
  obtain ⟨cur, e, fr, h1, _⟩ := h
  exact (Array.getElem?_eq_some_iff.1 h1).1
theorem lies_new (w : World) (s : ByteArray) (n : Nat) (e : TypeId) (fr : Nat × Nat) : Lies (w.alloc (.cells (bytesRow s n) e fr)) w.heap.size s := by
  refine ⟨bytesRow s n, e, fr, ?_, ?_⟩
  · show (w.heap.push _)[w.heap.size]? = _
    simp
  · intro k hk
    have e1 : s.data[k]? = some s[k] := Array.getElem?_eq_getElem (show k < s.data.size from hk)
    simp only [bytesRow, Array.getElem?_append, Array.size_map]
    rw [if_pos (show k < s.data.size from hk), Array.getElem?_map, e1]
    rfl
end Go.Proofs.Ytipippblnbihcak.Kit
namespace Go.Proofs.Ytipippblnbihcak
open Go.RowKit Kit
def hexC : List UInt8 := [48, 49, 50, 51, 52, 53, 54, 55, 56, 57, 97, 98, 99, 100, 101, 102]
theorem hexC_at : ∀ c < 16, hexC[c]? = some (figB c) := by decide
/-- A figure taken out of the text of all figures. -/
theorem idx (c : Nat) (hc : c < 16) (w : World) : (Instr.index 9 (.string ⟨#[48, 49, 50, 51, 52, 53, 54, 55, 56, 57, 97, 98, 99, 100, 101, 102]⟩) (.int .u8 c)).run Try.prog w = .ok (.int .u8 ((figB c).toNat : Int)) w := by
  have h1 : (c : Int) < 16 := by omega
  have h0 : (0 : Int) ≤ (c : Int) := by omega
  have e : ((⟨#[48, 49, 50, 51, 52, 53, 54, 55, 56, 57, 97, 98, 99, 100, 101, 102]⟩ : ByteArray)[c]'(by show c < 16; omega)) = figB c := by
    have := hexC_at c hc
    rw [List.getElem?_eq_some_iff] at this
    exact this.2
  go_simp
set_option maxRecDepth 100000 in
set_option maxHeartbeats 800000 in
theorem implHex_yes (s : ByteArray) (w : World) (hs : s.size ≤ 20000) :
    Calls Try.prog 17 #[.string s] w fun e w' => e = .returned (.tuple #[.string ⟨(hexL s.data.toList).toArray⟩, .bool true]) ∧ Below w.heap.size w w' := by
  have b0 : decide ((20000 : Int) < (s.size : Int)) = false := by simp; omega
  obtain ⟨i0, hi, hz0, hz1, hz2⟩ := info_parts Try.info5
  have hbs := fun W => run_bytes_of_string (P := Try.prog) W 9 34 5 s Try.underlying9 Try.underlying34 Try.underlying5
  go_enter Try.func17, Try.ntmps17
  go_wp2_with (at_make; refine wpList_make_own _ rfl _ _ 34 rfl w.heap.size 5 i0 (.int .u8 0) 1 Try.underlying34 hi hz0 hz1 .i64 .i64 _ (2 * s.size) rfl rfl ?c1 ?c2 ?c3 ?c4 ?_)
  case c1 => omega
  case c2 => rw [hz2]; omega
  case c3 => unfold maxLen; omega
  case c4 => omega
  intro w1 hown1 hgrow1
  have hlt1 : w.heap.size < w1.heap.size := (hown1.lt w.heap.size rfl).2
  have O1 : Owns w1 w.heap.size 5 (.slice (some ⟨w.heap.size, 0, none⟩) 0 (2 * s.size)) [] := hown1
  have B1 : Below w.heap.size w w1 := (Below.refl _ w).grown hgrow1 (Nat.le_refl _) (fun k hk => by cases hk)
  clear hown1 hgrow1
  go_wp2
  go_loopw [4, 17] (fun v i wr => ∃ k : Nat, k ≤ s.size ∧ i = .int .i64 k ∧ Owns wr w.heap.size 5 v (hexL (s.data.toList.take k)) ∧ Below w.heap.size w wr ∧ Lies wr w1.heap.size s ∧ v.ownBlock ≠ some w1.heap.size) (fun _ i _ => s.size - (intOf i).toNat)
  case atStart =>
    refine ⟨0, Nat.zero_le _, rfl, (O1.alloc _).drew, (B1.alloc (by omega) _).drew, (lies_new w1 s _ _ _).of_heap rfl, ?_⟩
    intro h
    simp only [Value.ownBlock, Option.some.injEq] at h
    omega
  case round =>
    obtain ⟨k, hk, rfl, hown, hb, hlies, hne⟩ := hrel
    have hsz := hb.size
    by_cases hlt : k < s.size
    · obtain ⟨c, hc⟩ : ∃ c : Nat, (s[k]).toNat = c := ⟨_, rfl⟩
      have hc1 : c < 256 := by rw [← hc]; exact (s[k]).toNat_lt
      have HN := hide (hexL_next s k hlt hc)
      have hlen : (hexL (s.data.toList.take k)).length + 2 ≤ 1000000000000 := by
        rw [hexL_length, List.length_take]; omega
      obtain ⟨pre, hpre⟩ : ∃ pre, pre = hexL (s.data.toList.take k) := ⟨_, rfl⟩
      rw [← hpre] at hown hlen HN
      have hcell := hlies.cell k hlt
      rw [hc] at hcell
      clear hpre hc
      have HL := hide hlies
      have HNE := hide hne
      clear hlies hne
      obtain ⟨x, hx⟩ : ∃ x : Nat, c / 16 = x := ⟨_, rfl⟩
      obtain ⟨y, hy⟩ : ∃ y : Nat, c % 16 = y := ⟨_, rfl⟩
      have t1 : bits BinOp.and IntKind.u8 (c : Int) 15 = (y : Int) := by rw [u8_and15 (x := (c : Int)) (by omega) (by omega)]; omega
      have t2 : (c : Int) / 16 = (x : Int) := by omega
      have ix := fun W => idx x (by omega) W
      have iy := fun W => idx y (by omega) W
      rw [hx, hy] at HN
      clear hx hy
      go_wp2_with fail
      go_region_held3 (fun _ => True) (trivial) ((refine step_append_keeps w wr ?_ (.tmp 21) (.tmp 28) 34 ?_ w.heap.size 5 Try.underlying34 Try.info5 _ pre ?_ hown hb hsz (figB x) (figB y) ?_ hlen ?_; rfl; rfl; rfl; rfl; intro v' w2 R1 R2 R3))
      all_goals
        have R4 := R3 w1.heap.size HL.out.lt HNE.out
        have HR := hide R4
        clear R3 R4
        go_wp2
        go_roundw
        case rel => exact ⟨k + 1, by omega, by go_num, by rw [HN.out]; exact R1, R2, HL.out.of_heap HR.out.2, HR.out.1⟩
        case measure => simp [intOf]; omega
    · have HT := hide (take_all s k (by omega))
      have hcv := conv_own (P := Try.prog) 34 9 5 Try.underlying34 Try.underlying5 Try.underlying9 hown
      rw [HT.out] at hcv
      clear hown
      go_wp2
      go_ret2
      exact ⟨rfl, hb⟩
theorem specHex_no (s : ByteArray) (w : World) (h : 20000 < s.size) :
    Calls Try.prog 16 #[.string s] w fun e w' => e = .returned (.tuple #[.string ⟨#[]⟩, .bool false]) ∧ w' = w := by
  go_enter Try.func16, Try.ntmps16
  go_wp2
  go_ret2
  exact ⟨rfl, rfl⟩
theorem implHex_no (s : ByteArray) (w : World) (h : 20000 < s.size) :
    Calls Try.prog 17 #[.string s] w fun e w' => e = .returned (.tuple #[.string ⟨#[]⟩, .bool false]) ∧ w' = w := by
  go_enter Try.func17, Try.ntmps17
  go_wp2
  go_ret2
  exact ⟨rfl, rfl⟩
namespace fnExactHex
theorem walk (a0 : ByteArray) (_w0 : a0.size ≤ maxLen) (w : World) :
    Calls Try.prog 7 #[.string a0] w fun e w' => e = .returned (.bool true) ∧ Below w.heap.size w w' := by
  by_cases h2 : 1048576 < a0.size
  · go_enter Try.func7, Try.ntmps7
    go_wp2
    go_ret
    exact ⟨rfl, Below.refl _ _⟩
  by_cases h : a0.size ≤ 20000
  · go_enter Try.func7, Try.ntmps7
    go_wp2_with (first | (go_at_call 16; refine (specHex_yes _ _ h).mono ?_; rintro e w1 ⟨rfl, hb1⟩) | (go_at_call 17; refine (implHex_yes _ _ h).mono ?_; rintro e w2 ⟨rfl, hb2⟩))
    go_ret
    exact ⟨rfl, hb1.trans (hb2.mono hb1.size)⟩
  · go_enter Try.func7, Try.ntmps7
    go_wp2_with (first | (go_at_call 16; refine (specHex_no _ _ (by omega)).mono ?_; rintro e w' ⟨rfl, rfl⟩) | (go_at_call 17; refine (implHex_no _ _ (by omega)).mono ?_; rintro e w' ⟨rfl, rfl⟩))
    go_ret
    exact ⟨rfl, Below.refl _ _⟩
end fnExactHex
end Go.Proofs.Ytipippblnbihcak
