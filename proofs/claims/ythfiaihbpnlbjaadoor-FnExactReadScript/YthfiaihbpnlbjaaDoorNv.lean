/- Lists of events: rows of five cells; laws.eqEvent, eqEventS, markEventS, heldEventS by their contracts. -/
import Derived.Test.YthfiaihbpnlbjaaDoorGn
import Derived.Test.YthfiaihbpnlbjaaDoorMarks
import Derived.Test.YthfiaihbpnlbjaaDoorEv
import Derived.Deep.RegionHeld3
namespace Go.Proofs.YthfiaihbpnlbjaaDoor
open Go.RowKit Kit
/-- An event: its kind, its paths, its number, its text. -/
abbrev Evt := Int × ByteArray × ByteArray × Int × ByteArray
def evRow (x : Evt) : Row := [.int .i64 x.1, .string x.2.1, .string x.2.2.1, .int .i64 x.2.2.2.1, .string x.2.2.2.2]
/-- A list of events of its own, in blocks from B on. -/
def EvO (w : World) (B : Nat) (v : Value) (ns : List Evt) : Prop := NOwns w 33 5 v (ns.map evRow) ∧ ∀ k, v.ownBlock = some k → B ≤ k
namespace EvO
variable {w w' : World} {B : Nat} {v : Value} {ns : List Evt}
theorem lt (h : EvO w B v ns) : ∀ k, v.ownBlock = some k → B ≤ k ∧ k < w.heap.size := fun k hk => ⟨h.2 k hk, h.1.lt k hk⟩
theorem of_heap (h : EvO w B v ns) (hh : ∀ k, v.ownBlock = some k → w'.heap[k]? = w.heap[k]?) : EvO w' B v ns := ⟨h.1.of_heap hh, h.2⟩
theorem below (h : EvO w B v ns) (hb : Below w.heap.size w w') : EvO w' B v ns := h.of_heap fun k hk => hb.block k (h.lt k hk).2
theorem mono {B' : Nat} (h : EvO w B v ns) (hB : B' ≤ B) : EvO w B' v ns := ⟨h.1, fun k hk => Nat.le_trans hB (h.2 k hk)⟩
theorem nil (w : World) (B : Nat) : EvO w B (.slice none 0 0) [] := ⟨NOwns.nil _ _ _, fun k hk => by simp [Value.ownBlock] at hk⟩
theorem lit0 (w : World) : EvO (w.alloc (.cells #[] 33)) w.heap.size (.slice (some ⟨w.heap.size, 0, none⟩) 0 0) [] := by
  refine ⟨?_, fun k hk => by simp [Value.ownBlock] at hk; omega⟩
  have := NOwns.of_at (n := 5) (ts := []) (AtC.new w 33 #[]) rfl (Even.nil _) (Nat.zero_le _)
  simpa using this
theorem form (h : EvO w B v ns) : ∃ a cap, v = .slice a ns.length cap := by
  obtain ⟨a, cap, e, -⟩ := h.1.form
  rw [List.length_map] at e
  exact ⟨a, cap, e⟩
theorem at_ (h : EvO w B v ns) (j : Nat) (hj : j < ns.length) : ∃ g cap, v = .slice (some ⟨g, 0, none⟩) ns.length cap ∧ w.cell? ⟨g, j * 5, none⟩ = some (.int .i64 ns[j].1) ∧ w.cell? ⟨g, j * 5 + 1, none⟩ = some (.string ns[j].2.1) ∧ w.cell? ⟨g, j * 5 + 2, none⟩ = some (.string ns[j].2.2.1) ∧ w.cell? ⟨g, j * 5 + 3, none⟩ = some (.int .i64 ns[j].2.2.2.1) ∧ w.cell? ⟨g, j * 5 + 4, none⟩ = some (.string ns[j].2.2.2.2) ∧ (∀ k, w.frozen? ⟨g, k, none⟩ = false) ∧ g < w.heap.size ∧ B ≤ g := by
  obtain ⟨g, cap, e, hc, hf, hg, -⟩ := h.1.at j (by rw [List.length_map]; exact hj)
  rw [List.length_map] at e
  refine ⟨g, cap, e, ?_, ?_, ?_, ?_, ?_, hf, hg, h.2 g (by rw [e]; rfl)⟩
  · have := hc 0 (by decide); rw [List.getElem_map] at this; exact this
  · have := hc 1 (by decide); rw [List.getElem_map] at this; exact this
  · have := hc 2 (by decide); rw [List.getElem_map] at this; exact this
  · have := hc 3 (by decide); rw [List.getElem_map] at this; exact this
  · have := hc 4 (by decide); rw [List.getElem_map] at this; exact this
end EvO
/-- The slice value v reads as the events ns. -/
def REv (w : World) (v : Value) (ns : List Evt) : Prop := ∃ a cap, v = .slice a ns.length cap ∧ ∀ (j : Nat) (h : j < ns.length), ∃ g off, a = some ⟨g, off, none⟩ ∧ g < w.heap.size ∧ w.cell? ⟨g, off + j * 5, none⟩ = some (.int .i64 ns[j].1) ∧ w.cell? ⟨g, off + j * 5 + 1, none⟩ = some (.string ns[j].2.1) ∧ w.cell? ⟨g, off + j * 5 + 2, none⟩ = some (.string ns[j].2.2.1) ∧ w.cell? ⟨g, off + j * 5 + 3, none⟩ = some (.int .i64 ns[j].2.2.2.1) ∧ w.cell? ⟨g, off + j * 5 + 4, none⟩ = some (.string ns[j].2.2.2.2)
theorem EvO.rev {w : World} {B : Nat} {v : Value} {ns : List Evt} (h : EvO w B v ns) : REv w v ns := by
  obtain ⟨a, cap, e⟩ := h.form
  refine ⟨a, cap, e, fun j hj => ?_⟩
  obtain ⟨g, c, e1, c0, c1, c2, c3, c4, -, hg, -⟩ := h.at_ j hj
  rw [e] at e1
  simp only [Value.slice.injEq] at e1
  exact ⟨g, 0, e1.1, hg, by rw [Nat.zero_add]; exact c0, by rw [Nat.zero_add]; exact c1, by rw [Nat.zero_add]; exact c2, by rw [Nat.zero_add]; exact c3, by rw [Nat.zero_add]; exact c4⟩
theorem REv.below {w w' : World} {v : Value} {ns : List Evt} (h : REv w v ns) (hb : Below w.heap.size w w') : REv w' v ns := by
  obtain ⟨a, cap, rfl, h⟩ := h
  refine ⟨a, cap, rfl, fun j hj => ?_⟩
  obtain ⟨g, off, e, hg, c0, c1, c2, c3, c4⟩ := h j hj
  exact ⟨g, off, e, Nat.lt_of_lt_of_le hg hb.size, (hb.cell (p := ⟨g, off + j * 5, none⟩) hg).trans c0, (hb.cell (p := ⟨g, off + j * 5 + 1, none⟩) hg).trans c1, (hb.cell (p := ⟨g, off + j * 5 + 2, none⟩) hg).trans c2, (hb.cell (p := ⟨g, off + j * 5 + 3, none⟩) hg).trans c3, (hb.cell (p := ⟨g, off + j * 5 + 4, none⟩) hg).trans c4⟩
set_option maxRecDepth 100000 in
set_option maxHeartbeats 800000 in
theorem eqEvent_same (k : Int) (p q : ByteArray) (a : Int) (t : ByteArray) (w : World) :
    Calls Tryd.prog 18 #[evV k p q a t, evV k p q a t] w fun e w' => e = .returned (.bool true) ∧ Below w.heap.size w w' := by
  go_enter Tryd.func18, Tryd.ntmps18
  go_wp2
  go_ret
  exact ⟨rfl, by go_grown⟩
