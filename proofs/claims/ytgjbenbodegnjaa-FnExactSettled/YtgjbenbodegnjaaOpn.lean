
/- A disk that comes in as an argument, opened: its lists and texts. -/
import Derived.Test.YtgjbenbodegnjaaSzD
import Derived.Test.YtgjbenbodegnjaaTs
import Derived.WalkKit
import Derived.ProofKit
import Derived.OpenShut
import Derived.ShutString
import Derived.ChangeOld
import Derived.Below
import Derived.Lib.SmallJoins
import Derived.Deep.SlicePairs
import Derived.Deep.Grids
namespace Go.Proofs.Ytgjbenbodegnjaa.open_
open Go.ChangeShapes Go.WideShapes Go.ChangeAt Go.RowKit Kit Go.Joins
set_option linter.unusedVariables false
variable {H : Type} {enc : TypeId × Value → H} {W : World}
theorem open_three {P : Program} {α : Type} [Inhabited α] (K : Kd α) (big : α → Prop) {t e : TypeId} {f0 f1 f2 : Field} {fuel : Nat} {c : Value} {y : DataW H × List MemPlace} (ht : P.underlying t = some (.slice e)) (he : P.underlying e = some (.struct #[f0, f1, f2])) (ce : P.cellsOf e = 3)
    (o0 : f0.offset = 0) (o1 : f1.offset = 1) (o2 : f2.offset = 2) (k0 : P.cellsOf f0.type = 1) (k1 : P.cellsOf f1.type = 1) (k2 : P.cellsOf f2.type = 1)
    (each : ∀ n v0 v1 v2 y0 y1 y2, DataW.trod enc P W 0 (fun _ => true) true n f0.type [v0] = some y0 → DataW.trod enc P W 0 (fun _ => true) true n f1.type [v1] = some y1 → DataW.trod enc P W 0 (fun _ => true) true n f2.type [v2] = some y2 → ∃ x, K.R W (v0, v1, v2) x ∧ big x)
    (h : DataW.trod enc P W 0 (fun _ => true) true fuel t [c] = some y) : ∃ xs : List α, R3 K W c xs ∧ xs.length ≤ maxLen ∧ ∀ (j : Nat) (h : j < xs.length), big xs[j] := by
  rcases Go.Deep.open_slice ht h with ⟨hcs, _⟩ | ⟨a, len, cap, m, n, D, Pl, hcs, hb, hl, hm, hmm, _, hx⟩
  · simp at hcs
    subst hcs
    exact ⟨[], ⟨none, 0, rfl, Nat.le_refl _, fun j hj => by simp at hj⟩, by simp, fun j hj => by simp at hj⟩
  · simp at hcs
    subst hcs
    have hlm : len ≤ m := by simp at hmm; omega
    have key : ∀ i, i < len → ∃ q : V3 × α, W.cell? (a.add (i * 3)) = some q.1.1 ∧ W.cell? (a.add (i * 3 + 1)) = some q.1.2.1 ∧ W.cell? (a.add (i * 3 + 2)) = some q.1.2.2 ∧ K.R W q.1 q.2 ∧ big q.2 := by
      intro i hi
      obtain ⟨cs', h1, h2⟩ := hx i (by omega)
      rw [ce] at h1
      obtain ⟨_, hlen, hcell⟩ := World.cells?_some h1
      obtain ⟨xs, k, hk, hxy, _, hxl, hf⟩ := DataW.trod_struct he h2
      match xs, hxl, cs', hlen with
      | [y0, y1, y2], _, [v0, v1, v2], _ =>
        have g0 := hf 0 f0 rfl
        have g1 := hf 1 f1 rfl
        have g2 := hf 2 f2 rfl
        simp [o0, o1, o2, k0, k1, k2] at g0 g1 g2
        have e0 := hcell 0 (by omega)
        have e1 := hcell 1 (by omega)
        have e2 := hcell 2 (by omega)
        rw [Go.Deep.add_add] at e0 e1 e2
        obtain ⟨x, hR, hbig⟩ := each k v0 v1 v2 y0 y1 y2 g0 g1 g2
        exact ⟨((v0, v1, v2), x), by simpa using e0, by simpa using e1, by simpa using e2, hR, hbig⟩
    obtain ⟨q, hq⟩ := Go.Deep.choose_lt key
    obtain ⟨b, off, spot⟩ := a
    have ha : spot = none → ∀ k, (⟨b, off, spot⟩ : Addr).add k = ⟨b, off + k, none⟩ := fun e k => by subst e; cases k <;> simp [Addr.add]
    refine ⟨(List.range len).map fun i => (q i).2, ⟨some ⟨b, off, spot⟩, cap, by simp, by simpa using hl, fun j hj => ?_⟩, by simp; omega, fun j hj => ?_⟩
    · have hj' : j < len := by simpa using hj
      have hspot : spot = none := by
        have := World.cell?_spot (hq 0 (by omega)).1
        simpa [Addr.add] using this
      obtain ⟨c0, c1, c2, hR, _⟩ := hq j hj'
      rw [ha hspot] at c0 c1 c2
      exact ⟨b, off, (q j).1, by rw [hspot], block_lt_of_cell c0, c0, by rw [Nat.add_assoc]; exact c1, by rw [Nat.add_assoc]; exact c2, by simpa using hR⟩
    · have hj' : j < len := by simpa using hj
      simpa using (hq j hj').2.2.2.2
theorem flags_of {w : World} {a : Addr} {len cap : Nat} {B : Nat → Bool} (h1 : len ≤ cap) (h : ∀ i, i < cap → w.cell? (a.add i) = some (.bool (B i))) : RFl w (.slice (some a) len cap) ((List.range len).map B) := by
  refine ⟨some a, cap, by simp, fun j hj => ?_⟩
  have hj' : j < len := by simpa using hj
  obtain ⟨b, off, spot⟩ := a
  have hspot : spot = none := by simpa [Addr.add] using World.cell?_spot (h 0 (by omega))
  subst hspot
  have ha : (⟨b, off, none⟩ : Addr).add j = ⟨b, off + j, none⟩ := by cases j <;> simp [Addr.add]
  have hc := h j (by omega)
  rw [ha] at hc
  refine ⟨b, off, rfl, block_lt_of_cell hc, ?_⟩
  rw [hc]
  simp
theorem flags_open {n : Nat} {v : Value} {y : DataW H × List MemPlace} (h : DataW.trod enc Try.prog W 0 (fun _ => true) true n 22 [v] = some y) : ∃ xs : List Bool, RFl W v xs ∧ xs.length ≤ maxLen := by
  rcases Go.Deep.open_bools Try.underlying22 Try.underlying4 (by kernel_rfl) h with ⟨hcs, _⟩ | ⟨x, l, c, B, hcs, _, hl, hm, _, hcell⟩
  · simp at hcs
    subst hcs
    exact ⟨[], ⟨none, 0, rfl, fun j hj => by simp at hj⟩, by simp⟩
  · simp at hcs
    subst hcs
    exact ⟨_, flags_of hl hcell, by simp; omega⟩
theorem ints_of {w : World} {a : Addr} {len : Nat} {cap : Nat} {zs : List Int} (h1 : len ≤ zs.length) (h : ∀ i, i < zs.length → w.cell? (a.add i) = some (.int .i64 (zs.getD i 0))) : RInts w (.slice (some a) len cap) (zs.take len) := by
  refine ⟨some a, cap, by simp; omega, fun j hj => ?_⟩
  have hj' : j < len := by simp at hj; omega
  obtain ⟨b, off, spot⟩ := a
  have hspot : spot = none := by simpa [Addr.add] using World.cell?_spot (h 0 (by omega))
  subst hspot
  have ha : (⟨b, off, none⟩ : Addr).add j = ⟨b, off + j, none⟩ := by cases j <;> simp [Addr.add]
  have hc := h j (by omega)
  rw [ha] at hc
  refine ⟨b, off, rfl, block_lt_of_cell hc, ?_⟩
  rw [hc]
  simp [List.getD, List.getElem?_eq_getElem (show j < zs.length by omega)]
theorem ints_open {n : Nat} {v : Value} {y : DataW H × List MemPlace} (h : DataW.trod enc Try.prog W 0 (fun _ => true) true n 59 [v] = some y) : ∃ xs : List Int, RInts W v xs ∧ xs.length ≤ maxLen := by
  rcases open_ints Try.underlying59 Try.underlying3 (by kernel_rfl) h with ⟨hcs, _⟩ | ⟨x, l, c, zs, hcs, _, hl, hm, hz, _, hcell, hwz⟩
  · simp at hcs
    subst hcs
    exact ⟨[], ⟨none, 0, rfl, fun j hj => by simp at hj⟩, by simp⟩
  · simp at hcs
    subst hcs
    have hle : l ≤ zs.length := by simp at hz; omega
    exact ⟨zs.take l, ints_of hle hcell, by simp; omega⟩
/-- The text of a value. -/
def strOf : Value → ByteArray
  | .string s => s
  | _ => ⟨#[]⟩
/-- The slots that cells tell. -/
def slotsOf (V0 V1 : Nat → Value) (len : Nat) : List Sl := (List.range len).map fun i => (strOf (V0 i), intOf (V1 i))
theorem slots_of {w : World} {a : Addr} {len cap : Nat} {V0 V1 : Nat → Value} (hc : len ≤ cap) (h0 : ∀ i, i < len → w.cell? (a.add (i * 2)) = some (V0 i)) (h1 : ∀ i, i < len → w.cell? (a.add (i * 2 + 1)) = some (V1 i))
    (hs : ∀ i, i < len → ∃ s : ByteArray, V0 i = .string s ∧ s.size ≤ maxLen) (hz : ∀ i, i < len → ∃ z : Int, V1 i = .int .i64 z) :
    RSl w (.slice (some a) len cap) (slotsOf V0 V1 len) ∧ ∀ (j : Nat) (h : j < (slotsOf V0 V1 len).length), (slotsOf V0 V1 len)[j].1.size ≤ maxLen := by
  have hlen : (slotsOf V0 V1 len).length = len := by simp [slotsOf]
  refine ⟨⟨some a, cap, by rw [hlen], by rw [hlen]; exact hc, fun j hj => ?_⟩, fun j hj => ?_⟩
  · rw [hlen] at hj
    obtain ⟨s, e0, _⟩ := hs j hj
    obtain ⟨z, e1⟩ := hz j hj
    have c0 := h0 j hj
    have c1 := h1 j hj
    obtain ⟨b, off, spot⟩ := a
    have hspot : spot = none := by
      have := World.cell?_spot (h0 0 (by omega))
      simpa [Addr.add] using this
    subst hspot
    have ha : ∀ k, (⟨b, off, none⟩ : Addr).add k = ⟨b, off + k, none⟩ := fun k => by cases k <;> simp [Addr.add]
    rw [ha] at c0 c1
    refine ⟨b, off, rfl, block_lt_of_cell c0, ?_, ?_⟩
    · rw [c0]; simp [slotsOf, e0, strOf]
    · rw [show off + j * 2 + 1 = off + (j * 2 + 1) by omega, c1]; simp [slotsOf, e1, intOf]
  · rw [hlen] at hj
    obtain ⟨s, e0, e1⟩ := hs j hj
    simp [slotsOf, e0, strOf, e1]
theorem slots_open {n : Nat} {v : Value} {y : DataW H × List MemPlace} (h : DataW.trod enc Try.prog W 0 (fun _ => true) true n 76 [v] = some y) : ∃ xs : List Sl, RSl W v xs ∧ xs.length ≤ maxLen ∧ ∀ (j : Nat) (h : j < xs.length), xs[j].1.size ≤ maxLen := by
  rcases Go.Deep.open_slice_pairs Try.underlying76 Try.underlying95 (by kernel_rfl) rfl rfl (by kernel_rfl) (by kernel_rfl) h with ⟨hcs, _⟩ | ⟨a, len, cap, m2, n2, V0, V1, D0, D1, P0, P1, hcs, -, hlc, hcm, hm2, -, hcell⟩
  · simp at hcs
    subst hcs
    exact ⟨[], ⟨none, 0, rfl, Nat.le_refl _, fun j hj => by simp at hj⟩, by simp, fun j hj => by simp at hj⟩
  · simp at hcs
    subst hcs
    have hlm : len ≤ m2 := by simp at hm2; omega
    have key := slots_of (w := W) (a := a) (len := len) (cap := cap) (V0 := V0) (V1 := V1) hlc (fun i hi => (hcell i (by omega)).1) (fun i hi => (hcell i (by omega)).2.1)
      (fun i hi => by obtain ⟨s, e, -, hs⟩ := DataW.trod_string Try.underlying9 (hcell i (by omega)).2.2.1; simp at e; exact ⟨s, e, hs⟩)
      (fun i hi => by obtain ⟨z, e, -, -⟩ := DataW.trod_int Try.underlying3 (hcell i (by omega)).2.2.2; simp at e; exact ⟨z, e⟩)
    exact ⟨slotsOf V0 V1 len, key.1, by simp [slotsOf]; omega, key.2⟩
theorem inos_open {n : Nat} {v : Value} {y : DataW H × List MemPlace} (h : DataW.trod enc Try.prog W 0 (fun _ => true) true n 25 [v] = some y) : ∃ xs : List Ino, R3 KI W v xs ∧ xs.length ≤ maxLen ∧ ∀ (j : Nat) (h : j < xs.length), xs[j].2.2.length ≤ maxLen := by
  refine open_three KI (fun x => x.2.2.length ≤ maxLen) Try.underlying25 Try.underlying74 (by kernel_rfl) rfl rfl rfl (by kernel_rfl) (by kernel_rfl) (by kernel_rfl) ?_ h
  intro n v0 v1 v2 y0 y1 y2 h0 h1 h2
  obtain ⟨x0, e0, -⟩ := DataW.trod_int Try.underlying3 h0
  obtain ⟨x1, e1, -⟩ := DataW.trod_int Try.underlying3 h1
  obtain ⟨xs, hx, hl⟩ := ints_open h2
  simp at e0 e1
  exact ⟨(x0, x1, xs), ⟨e0, e1, hx⟩, hl⟩
theorem blks_open {n : Nat} {v : Value} {y : DataW H × List MemPlace} (h : DataW.trod enc Try.prog W 0 (fun _ => true) true n 26 [v] = some y) : ∃ xs : List Blk, R3 KB W v xs ∧ xs.length ≤ maxLen ∧ ∀ (j : Nat) (h : j < xs.length), bigB maxLen xs[j] := by
  refine open_three KB (bigB maxLen) Try.underlying26 Try.underlying78 (by kernel_rfl) rfl rfl rfl (by kernel_rfl) (by kernel_rfl) (by kernel_rfl) ?_ h
  intro n v0 v1 v2 y0 y1 y2 h0 h1 h2
  obtain ⟨x0, e0, -⟩ := DataW.trod_bool Try.underlying4 h0
  obtain ⟨xs, hx, hl, hb⟩ := slots_open h1
  obtain ⟨x2, e2, -, hx2⟩ := DataW.trod_string Try.underlying9 h2
  simp at e0 e2
  exact ⟨(x0, xs, x2), ⟨e0, hx, e2⟩, hl, hb, hx2⟩
set_option maxRecDepth 100000 in
/-- A disk, opened. -/
theorem disk_open {r : Reach} {b0 : Nat} {v : Value} {d : DataW H} {p : List MemPlace} (hv : Value.okWide Try.prog W r b0 28 v) (h : DataW.Trod enc Try.prog W 0 (fun _ => true) true 28 v d p) :
    ∃ (u v' iv bv : Value) (xs ys : List Bool) (is : List Ino) (bs : List Blk), v = .agg #[u, v', iv, bv] ∧ DR W u v' iv bv xs ys is bs ∧ Big maxLen xs ys is bs := by
  obtain ⟨cs, rfl, hsz⟩ := okWide_struct Try.underlying28 hv
  have hC : Try.prog.cellsOf 28 = 4 := by kernel_rfl
  obtain ⟨c0, c1, c2, c3, rfl⟩ := array4 (hsz.trans hC)
  obtain ⟨fuel, hf⟩ := h
  obtain ⟨y0, y1, y2, n, hx, _, h0, h1, h2⟩ := Go.Deep.trod_struct3 Try.underlying28 hf
  have k0 : Try.prog.cellsOf 24 = 2 := by kernel_rfl
  have k1 : Try.prog.cellsOf 25 = 1 := by kernel_rfl
  have k2 : Try.prog.cellsOf 26 = 1 := by kernel_rfl
  have k3 : Try.prog.cellsOf 22 = 1 := by kernel_rfl
  simp [Value.cells, k0, k1, k2] at h0 h1 h2
  obtain ⟨z0, z1, m, hz, _, g0, g1⟩ := trod_struct2 Try.underlying24 h0
  simp [k3] at g0 g1
  obtain ⟨xs, hx1, hx2⟩ := flags_open g0
  obtain ⟨ys, hy1, hy2⟩ := flags_open g1
  obtain ⟨is, hi1, hi2, hi3⟩ := inos_open h1
  obtain ⟨bs, hb1, hb2, hb3⟩ := blks_open h2
  exact ⟨c0, c1, c2, c3, xs, ys, is, bs, rfl, ⟨hx1, hy1, hi1, hb1⟩, ⟨hx2, hy2, hi2, hi3, hb2, hb3⟩⟩
end Go.Proofs.Ytgjbenbodegnjaa.open_
