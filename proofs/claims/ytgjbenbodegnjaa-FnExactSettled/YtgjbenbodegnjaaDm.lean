
/- Those that lean, while they are marked: what becomes of the list. No Go function is spoken of. -/
import Derived.Test.YtgjbenbodegnjaaDd
namespace Go.Proofs.Ytgjbenbodegnjaa.Kit
open Go.RowKit
/-- Some cells from o on are stored. -/
def setCs (w : World) (g o : Nat) : List (Nat × Value) → World
  | [] => w
  | p :: r => setCs (w.setCell ⟨g, o + p.1, none⟩ p.2) g o r
def rowCs (t : Row) : List (Nat × Value) → Row
  | [] => t
  | p :: r => rowCs (t.set p.1 p.2) r
theorem setCs_other (g o : Nat) (ps : List (Nat × Value)) : ∀ (w : World) (k : Nat), k ≠ g → (setCs w g o ps).heap[k]? = w.heap[k]? := by
  induction ps with
  | nil => exact fun _ _ _ => rfl
  | cons p r ih => exact fun w k hk => (ih _ k hk).trans (heap_setCell_other w ⟨g, o + p.1, none⟩ k p.2 hk)
theorem setCs_size (g o : Nat) (ps : List (Nat × Value)) : ∀ (w : World), (setCs w g o ps).heap.size = w.heap.size := by
  induction ps with
  | nil => exact fun _ => rfl
  | cons p r ih => exact fun w => (ih _).trans (by simp)
theorem setCs_same (g o : Nat) (ps : List (Nat × Value)) : ∀ (w : World), (setCs w g o ps).os = w.os ∧ (setCs w g o ps).tape = w.tape ∧ (setCs w g o ps).output = w.output := by
  induction ps with
  | nil => exact fun _ => ⟨rfl, rfl, rfl⟩
  | cons p r ih => exact fun w => ih _
theorem setCs_chg (g o : Nat) (ps : List (Nat × Value)) {S : Nat → Prop} (hg : S g) (w : World) : Chg S w (setCs w g o ps) :=
  ⟨(setCs_same g o ps w).1, (setCs_same g o ps w).2.1, (setCs_same g o ps w).2.2, by rw [setCs_size]; exact Nat.le_refl _, fun k _ hn => setCs_other g o ps w k (fun e => hn (e ▸ hg))⟩
theorem rowCs_length (ps : List (Nat × Value)) : ∀ (t : Row), (rowCs t ps).length = t.length := by
  induction ps with
  | nil => exact fun _ => rfl
  | cons p r ih => exact fun t => (ih _).trans (by simp)
theorem NOwns.setCs {g cap : Nat} {e : TypeId} {n : Nat} (k : Nat) (ps : List (Nat × Value)) : ∀ (w : World) (l : List Row) (hk : k < l.length), (∀ p ∈ ps, p.1 < n) → NOwns w e n (.slice (some ⟨g, 0, none⟩) l.length cap) l →
    NOwns (setCs w g (k * n) ps) e n (.slice (some ⟨g, 0, none⟩) l.length cap) (l.set k (rowCs l[k] ps)) := by
  induction ps with
  | nil =>
    intro w l hk _ h
    simp only [rowCs, List.set_getElem_self]
    exact h
  | cons p r ih =>
    intro w l hk hp h
    have h1 := h.set k p.1 hk (hp p (by simp)) p.2
    have h2 : NOwns (w.setCell ⟨g, k * n + p.1, none⟩ p.2) e n (.slice (some ⟨g, 0, none⟩) (l.set k (l[k].set p.1 p.2)).length cap) (l.set k (l[k].set p.1 p.2)) := by rw [List.length_set]; exact h1
    have h3 := ih _ _ (by simpa using hk) (fun q hq => hp q (by simp [hq])) h2
    simp only [List.length_set, List.getElem_set_self, List.set_set] at h3
    exact h3
theorem NOwns.deps {w : World} {v : Value} {l : List Row} (h : NOwns w 65 11 v l) (k : Nat) (hk : k < l.length) {d : Dp} {p : Value} (hd : l[k] = d.row p) {g n cap : Nat} (hv : v = .slice (some ⟨g, 0, none⟩) n cap) : DCells w g (k * 11) d p ∧ ∀ j, w.frozen? ⟨g, j, none⟩ = false := by
  obtain ⟨g', cap', e, h1, h2, -⟩ := h.at k hk
  rw [hv] at e
  simp only [Value.slice.injEq, Option.some.injEq, Addr.mk.injEq] at e
  obtain ⟨⟨rfl, -⟩, -⟩ := e
  exact ⟨DCells.of fun i hi => by rw [h1 i hi, hd], h2⟩
/-- One that leans is marked: its first six cells, then (in a grown world) four more, then its list. -/
theorem GN.markD {w w2 : World} {S : Nat → Prop} {v : Value} {ts : List Row} {xs : List Dp} (h : GN KDep w S v ts xs) {g n cap : Nat} (hv : v = .slice (some ⟨g, 0, none⟩) n cap) (j : Nat) (hj : j < ts.length) {d : Dp} {p : Value} (hd : ts[j] = d.row p) (a0 a1 a2 a3 a4 a5 : Int)
    (hb : Below (setCs w g (j * 11) [(0, .int .i64 a0), (1, .int .i64 a1), (2, .int .i64 a2), (3, .int .i64 a3), (4, .int .i64 a4), (5, .int .i64 a5)]).heap.size (setCs w g (j * 11) [(0, .int .i64 a0), (1, .int .i64 a1), (2, .int .i64 a2), (3, .int .i64 a3), (4, .int .i64 a4), (5, .int .i64 a5)]) w2) :
    DCells w2 g (j * 11) ⟨a0, a1, a2, a3, a4, a5, d.nm, d.bt, d.ot, d.af, d.bl⟩ p ∧ (∀ i, w2.frozen? ⟨g, i, none⟩ = false) ∧
    ∀ (t : ByteArray) (b7 b8 : Bool) (a9 : Int) (l l' : List Int), ROwns w 0 3 p (ic l) →
      ROwns (setCs w2 g (j * 11) [(6, .string t), (7, .bool b7), (8, .bool b8), (9, .int .i64 a9)]) 0 3 p (ic l) ∧
      ∀ w4, ROwns w4 0 3 p (ic l') → (setCs w2 g (j * 11) [(6, .string t), (7, .bool b7), (8, .bool b8), (9, .int .i64 a9)]).grownBy w4 p.ownBlock →
        GN KDep w4 S v (ts.set j ((⟨a0, a1, a2, a3, a4, a5, t, b7, b8, a9, l'⟩ : Dp).row p)) (xs.set j ⟨a0, a1, a2, a3, a4, a5, t, b7, b8, a9, l'⟩) ∧ Chg S w w4 := by
  have hn : n = ts.length := h.len_of hv
  subst hn
  have hrow : NOwns w 65 11 (.slice (some ⟨g, 0, none⟩) ts.length cap) ts := by rw [← hv]; exact h.row
  have hgw : g < w.heap.size := hrow.lt g rfl
  have hSg : S g := h.so g (by rw [hv]; rfl)
  have hne : ∀ m, p.ownBlock = some m → m ≠ g := fun m hm e => h.out j hj m (by rw [hd]; exact hm) (by rw [hv, e]; rfl)
  have hpS : ∀ m, p.ownBlock = some m → S m := fun m hm => h.si j hj m (by rw [hd]; exact hm)
  have r1 := hrow.setCs j [(0, .int .i64 a0), (1, .int .i64 a1), (2, .int .i64 a2), (3, .int .i64 a3), (4, .int .i64 a4), (5, .int .i64 a5)] w ts hj (by simp)
  rw [hd] at r1
  have c1 : Chg S w (setCs w g (j * 11) [(0, .int .i64 a0), (1, .int .i64 a1), (2, .int .i64 a2), (3, .int .i64 a3), (4, .int .i64 a4), (5, .int .i64 a5)]) := setCs_chg g _ _ hSg w
  have o1 := fun k hk => setCs_other g (j * 11) [(0, .int .i64 a0), (1, .int .i64 a1), (2, .int .i64 a2), (3, .int .i64 a3), (4, .int .i64 a4), (5, .int .i64 a5)] w k hk
  have s1 := setCs_size g (j * 11) [(0, .int .i64 a0), (1, .int .i64 a1), (2, .int .i64 a2), (3, .int .i64 a3), (4, .int .i64 a4), (5, .int .i64 a5)] w
  generalize setCs w g (j * 11) [(0, .int .i64 a0), (1, .int .i64 a1), (2, .int .i64 a2), (3, .int .i64 a3), (4, .int .i64 a4), (5, .int .i64 a5)] = W1 at *
  have r2 : NOwns w2 65 11 (.slice (some ⟨g, 0, none⟩) ts.length cap) (ts.set j ((⟨a0, a1, a2, a3, a4, a5, d.nm, d.bt, d.ot, d.af, d.bl⟩ : Dp).row p)) := r1.of_heap fun k hk => hb.block k (r1.lt k hk)
  have hb2 := hb.size
  have q := r2.deps j (by simpa using hj) (d := ⟨a0, a1, a2, a3, a4, a5, d.nm, d.bt, d.ot, d.af, d.bl⟩) (p := p) (by rw [List.getElem_set_self]) rfl
  refine ⟨q.1, q.2, fun t b7 b8 a9 l l' hO => ?_⟩
  have hl2 : (ts.set j ((⟨a0, a1, a2, a3, a4, a5, d.nm, d.bt, d.ot, d.af, d.bl⟩ : Dp).row p)).length = ts.length := by simp
  have r3 := NOwns.setCs (g := g) (cap := cap) (e := 65) (n := 11) j [(6, .string t), (7, .bool b7), (8, .bool b8), (9, .int .i64 a9)] w2 (ts.set j ((⟨a0, a1, a2, a3, a4, a5, d.nm, d.bt, d.ot, d.af, d.bl⟩ : Dp).row p)) (by simpa using hj) (by simp) (by rw [hl2]; exact r2)
  simp only [List.length_set, List.getElem_set_self, List.set_set] at r3
  have c3 : Chg S w2 (setCs w2 g (j * 11) [(6, .string t), (7, .bool b7), (8, .bool b8), (9, .int .i64 a9)]) := setCs_chg g _ _ hSg w2
  have o3 := fun k hk => setCs_other g (j * 11) [(6, .string t), (7, .bool b7), (8, .bool b8), (9, .int .i64 a9)] w2 k hk
  have s3 := setCs_size g (j * 11) [(6, .string t), (7, .bool b7), (8, .bool b8), (9, .int .i64 a9)] w2
  generalize setCs w2 g (j * 11) [(6, .string t), (7, .bool b7), (8, .bool b8), (9, .int .i64 a9)] = W3 at *
  have hoth : ∀ k, k < w.heap.size → k ≠ g → W3.heap[k]? = w.heap[k]? := fun k hk hkg => ((o3 k hkg).trans (hb.block k (by omega))).trans (o1 k hkg)
  refine ⟨hO.of_heap fun m hm => hoth m (hO.lt m hm).2 (hne m hm), fun w4 hr hg => ⟨?_, ?_⟩⟩
  · have hs4 := hg.size
    have r4 : NOwns w4 65 11 v (ts.set j ((⟨a0, a1, a2, a3, a4, a5, t, b7, b8, a9, l'⟩ : Dp).row p)) := by
      rw [hv]
      have : NOwns w4 65 11 (.slice (some ⟨g, 0, none⟩) ts.length cap) (ts.set j (rowCs ((⟨a0, a1, a2, a3, a4, a5, d.nm, d.bt, d.ot, d.af, d.bl⟩ : Dp).row p) [(6, .string t), (7, .bool b7), (8, .bool b8), (9, .int .i64 a9)])) := r3.of_heap fun k hk => by
        have e : k = g := by simpa [Value.ownBlock] using hk.symm
        subst e
        exact hg.block k (by omega) (fun e => hne k e.symm rfl)
      exact this
    exact h.turn j hj _ _ r4 ⟨p, rfl, hr⟩ (fun k hk h1 h2 => (hg.block k (by omega) (fun e => h2 (by rw [hd]; exact e.symm))).trans (hoth k hk (fun e => h1 (by rw [hv, e]; rfl)))) (fun k hk => .inl (by rw [hd]; exact hk)) (fun k hk => hk) (fun k hk => hpS k hk)
  · exact ((c1.trans (Chg.of_below hb)).trans c3).trans (Chg.of_grown hg hpS)
end Go.Proofs.Ytgjbenbodegnjaa.Kit
