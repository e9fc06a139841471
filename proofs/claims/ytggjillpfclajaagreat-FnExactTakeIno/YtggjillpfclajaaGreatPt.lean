/- A leaner is put: leaners.put by its contract. -/
import Derived.Test.YtggjillpfclajaaGreatLn
import Derived.Test.YtggjillpfclajaaGreatNd
import Derived.Test.YtggjillpfclajaaGreatMz
namespace Go.Proofs.YtggjillpfclajaaGreat.Kit
open Go.RowKit Go.Maps
theorem lnRow_mk (d : Dp) (p : Value) (pl : Nat) (o : Option Nat) : lnRow d p pl o = #[.int .i64 d.id, .int .i64 d.kd, .int .i64 d.io, .int .i64 d.pt, .int .i64 d.bk, .int .i64 d.sl, .string d.nm, .bool d.bt, .bool d.ot, .int .i64 d.af, p, .int .i64 (pl : Int), ptrV o] := rfl
/-- One that leans, copied. -/
def MkPv (k : Nat) (d : Dp) : Mk := .val [k] (fun lo hi w v => ∃ a c, v = .agg (d.row (.slice a d.bl.length c)).toArray ∧ ROwns w lo 3 (.slice a d.bl.length c) (ic d.bl) ∧ ∀ i, (Value.slice a d.bl.length c).ownBlock = some i → i < hi)
  (fun _ _ _ _ _ h hb => by obtain ⟨a, c, h1, h2, h3⟩ := h; exact ⟨a, c, h1, h2.below hb (Nat.le_refl _), h3⟩)
/-- A leaner built. -/
def MkPl (k i j : Nat) (d : Dp) (pl : Nat) (o : Option Nat) : Mk := ⟨[k, i, j], fun _ _ _ v x => ∃ a c, x k = .agg (d.row (.slice a d.bl.length c)).toArray ∧ v = .agg (lnRow d (.slice a d.bl.length c) pl o), fun _ _ _ _ _ _ h _ => h, fun _ _ _ _ x x' e h => by
  obtain ⟨a, c, h1, h2⟩ := h
  exact ⟨a, c, by rw [← e k (by simp), h1], h2⟩⟩
/-- A leaner in a block. -/
def MkPb (k : Nat) (d : Dp) (pl : Nat) (o : Option Nat) : Mk := .val1 [k] k (by simp) (fun lo hi w u v => v = .pointer (some ⟨lo, 0, none⟩) ∧ hi = lo + 1 ∧ ∃ a c, u = .agg (lnRow d (.slice a d.bl.length c) pl o) ∧ AtC w lo 101 (lnRow d (.slice a d.bl.length c) pl o))
  (fun _ _ _ _ _ _ h hb => by obtain ⟨h1, h2, a, c, h3, h4⟩ := h; exact ⟨h1, h2, a, c, h3, h4.over hb⟩)
end Go.Proofs.YtggjillpfclajaaGreat.Kit
namespace Go.Proofs.YtggjillpfclajaaGreat
open Go.RowKit Kit Go.Maps
theorem Tryz.u3 : Tryz.prog.underlying 3 = some (.int .i64) := by kernel_rfl
theorem Tryz.u78 : Tryz.prog.underlying 78 = some (.map 3 98) := by kernel_rfl
theorem Tryz.z98 (w : World) : (zeroValue 98).run Tryz.prog w = .ok (.pointer none) w := by kernel_rfl
set_option maxRecDepth 100000 in
set_option maxHeartbeats 1600000 in
theorem put_any (L B : Nat) (E : List Ln) (ps : List Value) (pl : Nat) (id kd io pt bk sl : Int) (nm : ByteArray) (bt ot : Bool) (af : Int) (bl : List Int) (p : Value) (w : World) (h : LE Tryz.prog w L B E ps) (hv : RInts w p bl) (hl : bl.length ≤ 1048576) (hn : nm.size ≤ 1048576) (hw : (Lit.int .i64 id).wf = true) (hE : E.length < 1048576) (hL : L ≤ w.heap.size) :
    Calls Tryz.prog 48 #[.map (some B), .agg #[.int .i64 id, .int .i64 kd, .int .i64 io, .int .i64 pt, .int .i64 bk, .int .i64 sl, .string nm, .bool bt, .bool ot, .int .i64 af, p], .int .i64 (pl : Int)] w fun e w' => e = .returned (.tuple #[]) ∧ ∃ g u, LE Tryz.prog w' L B (E ++ [⟨pl, (⟨id, kd, io, pt, bk, sl, nm, bt, ot, af, bl⟩ : Dp), g⟩]) (ps ++ [u]) ∧ w.grownBy w' (some B) := by
  have H := hide h
  have HV := hide hv
  have HW := hide hw
  have HE := hide hE
  have HL := hide hL
  obtain ⟨a, c, rfl⟩ := hv.form
  clear h hv hw hE hL
  go_enter Tryz.func48, Tryz.ntmps48
  go_wp2_with fail
  have HC : Hid (∀ W, Below (w.alloc (.cells #[.int .i64 id, .int .i64 kd, .int .i64 io, .int .i64 pt, .int .i64 bk, .int .i64 sl, .string nm, .bool bt, .bool ot, .int .i64 af, .slice a bl.length c] 52)).drew.heap.size (w.alloc (.cells #[.int .i64 id, .int .i64 kd, .int .i64 io, .int .i64 pt, .int .i64 bk, .int .i64 sl, .string nm, .bool bt, .bool ot, .int .i64 af, .slice a bl.length c] 52)).drew W → AtC W w.heap.size 52 #[.int .i64 id, .int .i64 kd, .int .i64 io, .int .i64 pt, .int .i64 bk, .int .i64 sl, .string nm, .bool bt, .bool ot, .int .i64 af, .slice a bl.length c] ∧ Below w.heap.size w W ∧ w.heap.size + 1 ≤ W.heap.size) := fun W b => by
    have b2 := of_drew b
    have sz := b2.size
    simp at sz
    exact ⟨(AtC.new w 52 _).over b2, ((Below.refl _ w).alloc (Nat.le_refl _) _).trans (b2.mono (by simp)), sz⟩
  refine wp_region_frm (by kernel_rfl) [0, 1, 2, 3, 4, 5, 6, 7, 8, 9, 10, 11] [12] (fun i => match i with | 0 => .const [] (.map (some B)) | 1 => .const [] (.pointer (some ⟨w.heap.size, 0, none⟩)) | 2 => .const [1] (.int .i64 id) | 3 => .const [] (.agg #[.int .i64 id, .int .i64 kd, .int .i64 io, .int .i64 pt, .int .i64 bk, .int .i64 sl, .string nm, .bool bt, .bool ot, .int .i64 af, .slice a bl.length c]) | 4 => MkPv 3 (⟨id, kd, io, pt, bk, sl, nm, bt, ot, af, bl⟩ : Dp) | 5 => .const [] (.int .i64 (pl : Int)) | 6 => .const [] (.map (some B)) | 7 => .const [] (.pointer (some ⟨w.heap.size, 0, none⟩)) | 8 => .const [7] (.int .i64 id) | 9 => .const [6, 8] (ptrV (lastP id E)) | 10 => MkPl 4 5 9 (⟨id, kd, io, pt, bk, sl, nm, bt, ot, af, bl⟩ : Dp) pl (lastP id E) | 11 => MkPb 10 (⟨id, kd, io, pt, bk, sl, nm, bt, ot, af, bl⟩ : Dp) pl (lastP id E) | _ => .triv) (fun x => ⟨#[Value.map (some B), Value.agg #[Value.int IntKind.i64 id, Value.int IntKind.i64 kd, Value.int IntKind.i64 io, Value.int IntKind.i64 pt, Value.int IntKind.i64 bk, Value.int IntKind.i64 sl, Value.string nm, Value.bool bt, Value.bool ot, Value.int IntKind.i64 af, Value.slice a bl.length c], Value.int IntKind.i64 ↑pl, undef, Value.pointer (some { block := w.heap.size, off := 0 }), undef, x 0, x 1, x 2, x 3, x 4, x 5, x 6, x 7, x 8, x 9, x 10, x 11], []⟩) (fun i => match i with | 0 => undef | 1 => undef | 2 => undef | 3 => undef | 4 => undef | 5 => undef | 6 => undef | 7 => undef | 8 => undef | 9 => undef | 10 => undef | 11 => undef | _ => undef) rfl (by kernel_rfl) (by kernel_rfl) (by kernel_rfl) rfl ?_ ?_
  · intro jo hj so x iw W hd hp K hK
    simp only [List.mem_cons, List.not_mem_nil, or_false] at hj
    rcases hj with rfl | rfl | rfl | rfl | rfl | rfl | rfl | rfl | rfl | rfl | rfl | rfl
    · refine wpOp_step (o := _) rfl fun K' hK' => ?_
      have HK : Hid (∀ v W', Below W.heap.size W W' → ((Mk.const [] (.map (some B)) : Mk)).P W.heap.size W'.heap.size W' v (upd x 0 v) → K' ⟨#[Value.map (some B), Value.agg #[Value.int IntKind.i64 id, Value.int IntKind.i64 kd, Value.int IntKind.i64 io, Value.int IntKind.i64 pt, Value.int IntKind.i64 bk, Value.int IntKind.i64 sl, Value.string nm, Value.bool bt, Value.bool ot, Value.int IntKind.i64 af, Value.slice a bl.length c], Value.int IntKind.i64 ↑pl, undef, Value.pointer (some { block := w.heap.size, off := 0 }), undef, v, x 1, x 2, x 3, x 4, x 5, x 6, x 7, x 8, x 9, x 10, x 11], []⟩ W') := fun v W' h1 h2 => hK' _ _ (hK v W' h1 h2)
      clear hK hK' hp hd
      go_simp
      exact HK.out _ _ (Below.refl _ _) rfl
    · refine wpOp_step (o := _) rfl fun K' hK' => ?_
      have HK : Hid (∀ v W', Below W.heap.size W W' → ((Mk.const [] (.pointer (some ⟨w.heap.size, 0, none⟩)) : Mk)).P W.heap.size W'.heap.size W' v (upd x 1 v) → K' ⟨#[Value.map (some B), Value.agg #[Value.int IntKind.i64 id, Value.int IntKind.i64 kd, Value.int IntKind.i64 io, Value.int IntKind.i64 pt, Value.int IntKind.i64 bk, Value.int IntKind.i64 sl, Value.string nm, Value.bool bt, Value.bool ot, Value.int IntKind.i64 af, Value.slice a bl.length c], Value.int IntKind.i64 ↑pl, undef, Value.pointer (some { block := w.heap.size, off := 0 }), undef, x 0, v, x 2, x 3, x 4, x 5, x 6, x 7, x 8, x 9, x 10, x 11], []⟩ W') := fun v W' h1 h2 => hK' _ _ (hK v W' h1 h2)
      clear hK hK' hp hd
      go_simp
      exact HK.out _ _ (Below.refl _ _) rfl
    · refine wpOp_step (o := _) rfl fun K' hK' => ?_
      have HK : Hid (∀ v W', Below W.heap.size W W' → ((Mk.const [1] (.int .i64 id) : Mk)).P W.heap.size W'.heap.size W' v (upd x 2 v) → K' ⟨#[Value.map (some B), Value.agg #[Value.int IntKind.i64 id, Value.int IntKind.i64 kd, Value.int IntKind.i64 io, Value.int IntKind.i64 pt, Value.int IntKind.i64 bk, Value.int IntKind.i64 sl, Value.string nm, Value.bool bt, Value.bool ot, Value.int IntKind.i64 af, Value.slice a bl.length c], Value.int IntKind.i64 ↑pl, undef, Value.pointer (some { block := w.heap.size, off := 0 }), undef, x 0, x 1, v, x 3, x 4, x 5, x 6, x 7, x 8, x 9, x 10, x 11], []⟩ W') := fun v W' h1 h2 => hK' _ _ (hK v W' h1 h2)
      have e1 : x 1 = .pointer (some ⟨w.heap.size, 0, none⟩) := hp.post 1 (hd 1 (show 1 ∈ [1] from by decide))
      have q0 : W.cell? ⟨w.heap.size, 0, none⟩ = some (.int .i64 id) := (HC.out W hp.bel).1.cell 0
      clear hK hK' hp hd
      simp only [e1] at HK ⊢
      go_simp
      exact HK.out _ _ (Below.refl _ _) rfl
    · refine wpOp_step (o := _) rfl fun K' hK' => ?_
      have HK : Hid (∀ v W', Below W.heap.size W W' → ((Mk.const [] (.agg #[.int .i64 id, .int .i64 kd, .int .i64 io, .int .i64 pt, .int .i64 bk, .int .i64 sl, .string nm, .bool bt, .bool ot, .int .i64 af, .slice a bl.length c]) : Mk)).P W.heap.size W'.heap.size W' v (upd x 3 v) → K' ⟨#[Value.map (some B), Value.agg #[Value.int IntKind.i64 id, Value.int IntKind.i64 kd, Value.int IntKind.i64 io, Value.int IntKind.i64 pt, Value.int IntKind.i64 bk, Value.int IntKind.i64 sl, Value.string nm, Value.bool bt, Value.bool ot, Value.int IntKind.i64 af, Value.slice a bl.length c], Value.int IntKind.i64 ↑pl, undef, Value.pointer (some { block := w.heap.size, off := 0 }), undef, x 0, x 1, x 2, v, x 4, x 5, x 6, x 7, x 8, x 9, x 10, x 11], []⟩ W') := fun v W' h1 h2 => hK' _ _ (hK v W' h1 h2)
      have k0 := (HC.out W hp.bel).1
      have q0 : W.cell? ⟨w.heap.size, 0, none⟩ = some (.int .i64 id) := k0.cell 0
      have q1 : W.cell? ⟨w.heap.size, 1, none⟩ = some (.int .i64 kd) := k0.cell 1
      have q2 : W.cell? ⟨w.heap.size, 2, none⟩ = some (.int .i64 io) := k0.cell 2
      have q3 : W.cell? ⟨w.heap.size, 3, none⟩ = some (.int .i64 pt) := k0.cell 3
      have q4 : W.cell? ⟨w.heap.size, 4, none⟩ = some (.int .i64 bk) := k0.cell 4
      have q5 : W.cell? ⟨w.heap.size, 5, none⟩ = some (.int .i64 sl) := k0.cell 5
      have q6 : W.cell? ⟨w.heap.size, 6, none⟩ = some (.string nm) := k0.cell 6
      have q7 : W.cell? ⟨w.heap.size, 7, none⟩ = some (.bool bt) := k0.cell 7
      have q8 : W.cell? ⟨w.heap.size, 8, none⟩ = some (.bool ot) := k0.cell 8
      have q9 : W.cell? ⟨w.heap.size, 9, none⟩ = some (.int .i64 af) := k0.cell 9
      have q10 : W.cell? ⟨w.heap.size, 10, none⟩ = some (.slice a bl.length c) := k0.cell 10
      clear k0
      clear hK hK' hp hd
      go_simp
      exact HK.out _ _ (Below.refl _ _) rfl
    · refine wpOp_step (o := _) rfl fun K' hK' => ?_
      have HK : Hid (∀ v W', Below W.heap.size W W' → (MkPv 3 (⟨id, kd, io, pt, bk, sl, nm, bt, ot, af, bl⟩ : Dp)).P W.heap.size W'.heap.size W' v (upd x 4 v) → K' ⟨#[Value.map (some B), Value.agg #[Value.int IntKind.i64 id, Value.int IntKind.i64 kd, Value.int IntKind.i64 io, Value.int IntKind.i64 pt, Value.int IntKind.i64 bk, Value.int IntKind.i64 sl, Value.string nm, Value.bool bt, Value.bool ot, Value.int IntKind.i64 af, Value.slice a bl.length c], Value.int IntKind.i64 ↑pl, undef, Value.pointer (some { block := w.heap.size, off := 0 }), undef, x 0, x 1, x 2, x 3, v, x 5, x 6, x 7, x 8, x 9, x 10, x 11], []⟩ W') := fun v W' h1 h2 => hK' _ _ (hK v W' h1 h2)
      have e3 : x 3 = .agg #[.int .i64 id, .int .i64 kd, .int .i64 io, .int .i64 pt, .int .i64 bk, .int .i64 sl, .string nm, .bool bt, .bool ot, .int .i64 af, .slice a bl.length c] := hp.post 3 (hd 3 (show 3 ∈ [3] from by decide))
      have bl1 := (HC.out W hp.bel).2.1
      clear hK hK' hp hd
      simp only [e3] at HK ⊢
      go_simp
      refine (newDep_any id kd io pt bk sl nm bt ot af bl _ W (HV.out.below bl1 (Nat.le_refl _)) hl hn).mono ?_
      rintro e w6 ⟨u, rfl, O6, B6⟩
      obtain ⟨b1, d1, rfl⟩ := O6.rints.form
      go_simp
      exact HK.out _ _ B6 ⟨b1, d1, rfl, O6, fun i hi => (O6.lt i hi).2⟩
    · refine wpOp_step (o := _) rfl fun K' hK' => ?_
      have HK : Hid (∀ v W', Below W.heap.size W W' → ((Mk.const [] (.int .i64 (pl : Int)) : Mk)).P W.heap.size W'.heap.size W' v (upd x 5 v) → K' ⟨#[Value.map (some B), Value.agg #[Value.int IntKind.i64 id, Value.int IntKind.i64 kd, Value.int IntKind.i64 io, Value.int IntKind.i64 pt, Value.int IntKind.i64 bk, Value.int IntKind.i64 sl, Value.string nm, Value.bool bt, Value.bool ot, Value.int IntKind.i64 af, Value.slice a bl.length c], Value.int IntKind.i64 ↑pl, undef, Value.pointer (some { block := w.heap.size, off := 0 }), undef, x 0, x 1, x 2, x 3, x 4, v, x 6, x 7, x 8, x 9, x 10, x 11], []⟩ W') := fun v W' h1 h2 => hK' _ _ (hK v W' h1 h2)
      clear hK hK' hp hd
      go_simp
      exact HK.out _ _ (Below.refl _ _) rfl
    · refine wpOp_step (o := _) rfl fun K' hK' => ?_
      have HK : Hid (∀ v W', Below W.heap.size W W' → ((Mk.const [] (.map (some B)) : Mk)).P W.heap.size W'.heap.size W' v (upd x 6 v) → K' ⟨#[Value.map (some B), Value.agg #[Value.int IntKind.i64 id, Value.int IntKind.i64 kd, Value.int IntKind.i64 io, Value.int IntKind.i64 pt, Value.int IntKind.i64 bk, Value.int IntKind.i64 sl, Value.string nm, Value.bool bt, Value.bool ot, Value.int IntKind.i64 af, Value.slice a bl.length c], Value.int IntKind.i64 ↑pl, undef, Value.pointer (some { block := w.heap.size, off := 0 }), undef, x 0, x 1, x 2, x 3, x 4, x 5, v, x 7, x 8, x 9, x 10, x 11], []⟩ W') := fun v W' h1 h2 => hK' _ _ (hK v W' h1 h2)
      clear hK hK' hp hd
      go_simp
      exact HK.out _ _ (Below.refl _ _) rfl
    · refine wpOp_step (o := _) rfl fun K' hK' => ?_
      have HK : Hid (∀ v W', Below W.heap.size W W' → ((Mk.const [] (.pointer (some ⟨w.heap.size, 0, none⟩)) : Mk)).P W.heap.size W'.heap.size W' v (upd x 7 v) → K' ⟨#[Value.map (some B), Value.agg #[Value.int IntKind.i64 id, Value.int IntKind.i64 kd, Value.int IntKind.i64 io, Value.int IntKind.i64 pt, Value.int IntKind.i64 bk, Value.int IntKind.i64 sl, Value.string nm, Value.bool bt, Value.bool ot, Value.int IntKind.i64 af, Value.slice a bl.length c], Value.int IntKind.i64 ↑pl, undef, Value.pointer (some { block := w.heap.size, off := 0 }), undef, x 0, x 1, x 2, x 3, x 4, x 5, x 6, v, x 8, x 9, x 10, x 11], []⟩ W') := fun v W' h1 h2 => hK' _ _ (hK v W' h1 h2)
      clear hK hK' hp hd
      go_simp
      exact HK.out _ _ (Below.refl _ _) rfl
    · refine wpOp_step (o := _) rfl fun K' hK' => ?_
      have HK : Hid (∀ v W', Below W.heap.size W W' → ((Mk.const [7] (.int .i64 id) : Mk)).P W.heap.size W'.heap.size W' v (upd x 8 v) → K' ⟨#[Value.map (some B), Value.agg #[Value.int IntKind.i64 id, Value.int IntKind.i64 kd, Value.int IntKind.i64 io, Value.int IntKind.i64 pt, Value.int IntKind.i64 bk, Value.int IntKind.i64 sl, Value.string nm, Value.bool bt, Value.bool ot, Value.int IntKind.i64 af, Value.slice a bl.length c], Value.int IntKind.i64 ↑pl, undef, Value.pointer (some { block := w.heap.size, off := 0 }), undef, x 0, x 1, x 2, x 3, x 4, x 5, x 6, x 7, v, x 9, x 10, x 11], []⟩ W') := fun v W' h1 h2 => hK' _ _ (hK v W' h1 h2)
      have e7 : x 7 = .pointer (some ⟨w.heap.size, 0, none⟩) := hp.post 7 (hd 7 (show 7 ∈ [7] from by decide))
      have q0 : W.cell? ⟨w.heap.size, 0, none⟩ = some (.int .i64 id) := (HC.out W hp.bel).1.cell 0
      clear hK hK' hp hd
      simp only [e7] at HK ⊢
      go_simp
      exact HK.out _ _ (Below.refl _ _) rfl
    · refine wpOp_step (o := _) rfl fun K' hK' => ?_
      have HK : Hid (∀ v W', Below W.heap.size W W' → ((Mk.const [6, 8] (ptrV (lastP id E)) : Mk)).P W.heap.size W'.heap.size W' v (upd x 9 v) → K' ⟨#[Value.map (some B), Value.agg #[Value.int IntKind.i64 id, Value.int IntKind.i64 kd, Value.int IntKind.i64 io, Value.int IntKind.i64 pt, Value.int IntKind.i64 bk, Value.int IntKind.i64 sl, Value.string nm, Value.bool bt, Value.bool ot, Value.int IntKind.i64 af, Value.slice a bl.length c], Value.int IntKind.i64 ↑pl, undef, Value.pointer (some { block := w.heap.size, off := 0 }), undef, x 0, x 1, x 2, x 3, x 4, x 5, x 6, x 7, x 8, v, x 10, x 11], []⟩ W') := fun v W' h1 h2 => hK' _ _ (hK v W' h1 h2)
      have e6 : x 6 = .map (some B) := hp.post 6 (hd 6 (show 6 ∈ [6, 8] from by decide))
      have e8 : x 8 = .int .i64 id := hp.post 8 (hd 8 (show 8 ∈ [6, 8] from by decide))
      have lk := (H.out.below (HC.out W hp.bel).2.1).look Tryz.u3 Tryz.u78 Tryz.z98 HW.out
      clear hK hK' hp hd
      simp only [e6, e8] at HK ⊢
      go_simp
      exact HK.out _ _ (Below.refl _ _) rfl
    · refine wpOp_step (o := _) rfl fun K' hK' => ?_
      have HK : Hid (∀ v W', Below W.heap.size W W' → (MkPl 4 5 9 (⟨id, kd, io, pt, bk, sl, nm, bt, ot, af, bl⟩ : Dp) pl (lastP id E)).P W.heap.size W'.heap.size W' v (upd x 10 v) → K' ⟨#[Value.map (some B), Value.agg #[Value.int IntKind.i64 id, Value.int IntKind.i64 kd, Value.int IntKind.i64 io, Value.int IntKind.i64 pt, Value.int IntKind.i64 bk, Value.int IntKind.i64 sl, Value.string nm, Value.bool bt, Value.bool ot, Value.int IntKind.i64 af, Value.slice a bl.length c], Value.int IntKind.i64 ↑pl, undef, Value.pointer (some { block := w.heap.size, off := 0 }), undef, x 0, x 1, x 2, x 3, x 4, x 5, x 6, x 7, x 8, x 9, v, x 11], []⟩ W') := fun v W' h1 h2 => hK' _ _ (hK v W' h1 h2)
      have e4 : ∃ a c, x 4 = .agg ((⟨id, kd, io, pt, bk, sl, nm, bt, ot, af, bl⟩ : Dp).row (.slice a (⟨id, kd, io, pt, bk, sl, nm, bt, ot, af, bl⟩ : Dp).bl.length c)).toArray ∧ ROwns W (iw 4).1 3 (.slice a (⟨id, kd, io, pt, bk, sl, nm, bt, ot, af, bl⟩ : Dp).bl.length c) (ic (⟨id, kd, io, pt, bk, sl, nm, bt, ot, af, bl⟩ : Dp).bl) ∧ ∀ i, (Value.slice a (⟨id, kd, io, pt, bk, sl, nm, bt, ot, af, bl⟩ : Dp).bl.length c).ownBlock = some i → i < (iw 4).2 := hp.post 4 (hd 4 (show 4 ∈ [4, 5, 9] from by decide))
      have e5 : x 5 = .int .i64 (pl : Int) := hp.post 5 (hd 5 (show 5 ∈ [4, 5, 9] from by decide))
      have e9 : x 9 = ptrV (lastP id E) := hp.post 9 (hd 9 (show 9 ∈ [4, 5, 9] from by decide))
      clear hK hK' hp hd
      obtain ⟨b1, d1, e4, -⟩ := e4
      have HE4 := hide e4
      have HL4 : Hid (∀ o, lastP id E = o → lastP id E = o) := fun _ h => h
      rw [e4, e5, e9] at HK ⊢
      clear e4 e5 e9
      generalize lastP id E = o at HK ⊢
      cases o <;> simp only [ptrV, Dp.row] at HK ⊢ <;> go_simp <;> exact HK.out _ _ (Below.refl _ _) ⟨b1, d1, by rw [upd_ne _ _ _ _ (by decide)]; exact HE4.out, rfl⟩
    · refine wpOp_step (o := _) rfl fun K' hK' => ?_
      have HK : Hid (∀ v W', Below W.heap.size W W' → (MkPb 10 (⟨id, kd, io, pt, bk, sl, nm, bt, ot, af, bl⟩ : Dp) pl (lastP id E)).P W.heap.size W'.heap.size W' v (upd x 11 v) → K' ⟨#[Value.map (some B), Value.agg #[Value.int IntKind.i64 id, Value.int IntKind.i64 kd, Value.int IntKind.i64 io, Value.int IntKind.i64 pt, Value.int IntKind.i64 bk, Value.int IntKind.i64 sl, Value.string nm, Value.bool bt, Value.bool ot, Value.int IntKind.i64 af, Value.slice a bl.length c], Value.int IntKind.i64 ↑pl, undef, Value.pointer (some { block := w.heap.size, off := 0 }), undef, x 0, x 1, x 2, x 3, x 4, x 5, x 6, x 7, x 8, x 9, x 10, v], []⟩ W') := fun v W' h1 h2 => hK' _ _ (hK v W' h1 h2)
      have e10 : ∃ a c, x 4 = .agg ((⟨id, kd, io, pt, bk, sl, nm, bt, ot, af, bl⟩ : Dp).row (.slice a (⟨id, kd, io, pt, bk, sl, nm, bt, ot, af, bl⟩ : Dp).bl.length c)).toArray ∧ x 10 = .agg (lnRow (⟨id, kd, io, pt, bk, sl, nm, bt, ot, af, bl⟩ : Dp) (.slice a (⟨id, kd, io, pt, bk, sl, nm, bt, ot, af, bl⟩ : Dp).bl.length c) pl (lastP id E)) := hp.post 10 (hd 10 (show 10 ∈ [10] from by decide))
      clear hK hK' hp hd
      obtain ⟨b1, d1, -, e10⟩ := e10
      have HE4 := hide e10
      simp only [e10] at HK ⊢
      clear e10
      generalize lastP id E = o at *
      cases o <;> simp only [ptrV, lnRow] at HK ⊢ <;> go_simp <;> exact HK.out _ _ ((Below.refl _ W).alloc (Nat.le_refl _) _) ⟨rfl, by simp, b1, d1, by rw [upd_ne _ _ _ _ (by decide)]; exact HE4.out, AtC.new W 101 _⟩
  · intro x iw W hp
    have e0 : x 0 = .map (some B) := hp.post 0 (by decide)
    have e2 : x 2 = .int .i64 id := hp.post 2 (by decide)
    obtain ⟨b1, d1, e4, O4, lt4⟩ := hp.post 4 (by decide)
    obtain ⟨b2, d2, k4, e10⟩ := hp.post 10 (by decide)
    obtain ⟨e11, z11, b3, d3, k10, A11⟩ := hp.post 11 (by decide)
    rw [e4] at k4
    rw [e10] at k10
    simp only [Dp.row, lnRow_mk, Value.agg.injEq, Array.mk.injEq, List.cons.injEq, Value.slice.injEq, true_and, and_true] at k4 k10
    obtain ⟨rfl, rfl⟩ := k4
    obtain ⟨rfl, rfl⟩ := k10
    have p411 := hp.apart 4 (by decide) 11 (by decide) (by decide)
    have l4 := hp.lo 4 (by decide)
    have l11 := hp.lo 11 (by decide)
    simp [World.drew] at l4 l11
    obtain ⟨kA, bel, -⟩ := HC.out W hp.bel
    have hlast : lastP ((⟨id, kd, io, pt, bk, sl, nm, bt, ot, af, bl⟩ : Dp)).id E = lastP id E := rfl
    obtain ⟨D, m1, m2⟩ := H.out.put (g := (iw 11).1) (p := .slice b1 bl.length d1) (d := (⟨id, kd, io, pt, bk, sl, nm, bt, ot, af, bl⟩ : Dp)) (pl := pl) Tryz.u3 bel A11 (by omega) (O4.base_le (Nat.zero_le _)) (fun k hk => by
      have q1 := (O4.lt k hk).1
      have q2 := lt4 k hk
      omega) HW.out HL.out
    generalize (iw 11).1 = g at *
    simp only [e0, e2, e11]
    clear hp O4 lt4 e4 e10 kA z11 p411 l4 l11 e0 e2 e11
    refine wpList_mapUpdate_own (H := Nat) _ rfl _ _ _ 78 rfl 3 98 (int_keyed Tryz.u3) Tryz.u78 ptrE B E.length D rfl m1 (by have := HE.out; show E.length < maxLen; exact Nat.lt_trans this (by decide)) _ _ (.int .i64 id) rfl rfl (keyOf_int_mk Tryz.u3 HW.out) (.held g) [] rfl ?_
    intro w2 o2 g2
    have LE2 := m2 w2 o2 g2
    have HL2 := hide (And.intro LE2 (grownBy_trans (grownBy_below bel _) g2))
    clear m1 m2 o2 g2 LE2 bel
    go_wp2
    go_end0
    exact ⟨rfl, g, _, HL2.out.1, HL2.out.2⟩
end Go.Proofs.YtggjillpfclajaaGreat
