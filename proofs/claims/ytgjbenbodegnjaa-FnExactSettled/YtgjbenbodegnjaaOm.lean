
/- A memory that comes in as an argument, opened: its lists and texts. -/
import Derived.Test.YtgjbenbodegnjaaOpn
import Derived.Test.YtgjbenbodegnjaaDd
namespace Go.Proofs.Ytgjbenbodegnjaa.open_
open Go.ChangeShapes Go.WideShapes Go.ChangeAt Go.RowKit Kit Go.Joins
set_option linter.unusedVariables false
variable {H : Type} {enc : TypeId × Value → H} {W : World}
set_option maxRecDepth 100000 in
/-- One that leans, opened. -/
theorem dep_cells {n : Nat} {cs : List Value} {y : DataW H × List MemPlace} (hl : cs.length = 11) (h : DataW.trod enc Try.prog W 0 (fun _ => true) true n 61 cs = some y) :
    ∃ (d : Dp) (p : Value), cs = d.row p ∧ RInts W p d.bl ∧ d.bl.length ≤ maxLen ∧ d.nm.size ≤ maxLen := by
  obtain ⟨xs, k, hk, hxy, _, hxl, hf⟩ := DataW.trod_struct Try.underlying61 h
  match xs, hxl, cs, hl with
  | [y0, y1, y2, y3, y4, y5, y6, y7, y8, y9, y10], _, [v0, v1, v2, v3, v4, v5, v6, v7, v8, v9, v10], _ =>
    have k3 : Try.prog.cellsOf 3 = 1 := by kernel_rfl
    have k4 : Try.prog.cellsOf 4 = 1 := by kernel_rfl
    have k9 : Try.prog.cellsOf 9 = 1 := by kernel_rfl
    have k70 : Try.prog.cellsOf 59 = 1 := by kernel_rfl
    have g0 := hf 0 _ rfl
    have g1 := hf 1 _ rfl
    have g2 := hf 2 _ rfl
    have g3 := hf 3 _ rfl
    have g4 := hf 4 _ rfl
    have g5 := hf 5 _ rfl
    have g6 := hf 6 _ rfl
    have g7 := hf 7 _ rfl
    have g8 := hf 8 _ rfl
    have g9 := hf 9 _ rfl
    have g10 := hf 10 _ rfl
    simp [k3, k4, k9, k70] at g0 g1 g2 g3 g4 g5 g6 g7 g8 g9 g10
    obtain ⟨x0, e0, -⟩ := DataW.trod_int Try.underlying3 g0
    obtain ⟨x1, e1, -⟩ := DataW.trod_int Try.underlying3 g1
    obtain ⟨x2, e2, -⟩ := DataW.trod_int Try.underlying3 g2
    obtain ⟨x3, e3, -⟩ := DataW.trod_int Try.underlying3 g3
    obtain ⟨x4, e4, -⟩ := DataW.trod_int Try.underlying3 g4
    obtain ⟨x5, e5, -⟩ := DataW.trod_int Try.underlying3 g5
    obtain ⟨x6, e6, -, l6⟩ := DataW.trod_string Try.underlying9 g6
    obtain ⟨x7, e7, -⟩ := DataW.trod_bool Try.underlying4 g7
    obtain ⟨x8, e8, -⟩ := DataW.trod_bool Try.underlying4 g8
    obtain ⟨x9, e9, -⟩ := DataW.trod_int Try.underlying3 g9
    obtain ⟨bl, hbl, lbl⟩ := ints_open g10
    simp at e0 e1 e2 e3 e4 e5 e6 e7 e8 e9
    exact ⟨⟨x0, x1, x2, x3, x4, x5, x6, x7, x8, x9, bl⟩, v10, by rw [e0, e1, e2, e3, e4, e5, e6, e7, e8, e9]; rfl, hbl, lbl, l6⟩
theorem deps_open {n : Nat} {c : Value} {y : DataW H × List MemPlace} (h : DataW.trod enc Try.prog W 0 (fun _ => true) true n 29 [c] = some y) :
    ∃ xs : List Dp, RN KDep W c xs ∧ xs.length ≤ maxLen ∧ ∀ (j : Nat) (h : j < xs.length), xs[j].bl.length ≤ maxLen ∧ xs[j].nm.size ≤ maxLen := by
  have ce : Try.prog.cellsOf 61 = 11 := by kernel_rfl
  haveI : Inhabited Dp := ⟨⟨0, 0, 0, 0, 0, 0, ⟨#[]⟩, false, false, 0, []⟩⟩
  rcases Go.Deep.open_slice Try.underlying29 h with ⟨hcs, _⟩ | ⟨a, len, cap, m, n, D, Pl, hcs, hb, hl, hm, hmm, _, hx⟩
  · simp at hcs
    subst hcs
    exact ⟨[], ⟨none, 0, rfl, Nat.le_refl _, fun j hj => by simp at hj⟩, by simp, fun j hj => by simp at hj⟩
  · simp at hcs
    subst hcs
    have hlm : len ≤ m := by simp at hmm; omega
    have key : ∀ i, i < len → ∃ q : Row × Dp, (∀ k, k < 11 → W.cell? (a.add (i * 11 + k)) = q.1[k]?) ∧ KDep.R W q.1 q.2 ∧ q.2.bl.length ≤ maxLen ∧ q.2.nm.size ≤ maxLen := by
      intro i hi
      obtain ⟨cs', h1, h2⟩ := hx i (by omega)
      rw [ce] at h1
      obtain ⟨_, hlen, hcell⟩ := World.cells?_some h1
      obtain ⟨d, p, e, hr, l1, l2⟩ := dep_cells hlen h2
      refine ⟨(cs', d), fun k hk => ?_, ⟨p, e, hr⟩, l1, l2⟩
      have e0 := hcell k (by omega)
      rw [Go.Deep.add_add] at e0
      rw [e0]
    obtain ⟨q, hq⟩ := Go.Deep.choose_lt key
    obtain ⟨b, off, spot⟩ := a
    have ha : spot = none → ∀ k, (⟨b, off, spot⟩ : Addr).add k = ⟨b, off + k, none⟩ := fun e k => by subst e; cases k <;> simp [Addr.add]
    refine ⟨(List.range len).map fun i => (q i).2, ⟨some ⟨b, off, spot⟩, cap, by simp, by simpa using hl, fun j hj => ?_⟩, by simp; omega, fun j hj => ?_⟩
    · have hj' : j < len := by simpa using hj
      obtain ⟨hc, hR, -, -⟩ := hq j hj'
      have h0 := hc 0 (by decide)
      obtain ⟨p, ep, hr⟩ := hR
      have hspot : spot = none := by
        obtain ⟨hc0, ⟨p0, ep0, -⟩, -, -⟩ := hq 0 (by omega)
        have h1 := hc0 0 (by decide)
        rw [ep0] at h1
        have h2 : W.cell? ((⟨b, off, spot⟩ : Addr).add (0 * 11 + 0)) = some (.int .i64 (q 0).2.id) := h1
        have := World.cell?_spot h2
        simpa [Addr.add] using this
      have h00 : W.cell? ⟨b, off + (j * 11 + 0), none⟩ = some (.int .i64 (q j).2.id) := by rw [← ha hspot, h0, ep]; rfl
      refine ⟨b, off, (q j).1, by rw [hspot], block_lt_of_cell h00, fun i hi => ?_, ?_⟩
      · rw [Nat.add_assoc, ← ha hspot]
        exact hc i hi
      · simp only [List.getElem_map, List.getElem_range]
        exact ⟨p, ep, hr⟩
    · have hj' : j < len := by simpa using hj
      simpa using (hq j hj').2.2
set_option maxRecDepth 100000 in
/-- A memory, opened. -/
theorem mem_open {r : Reach} {b0 : Nat} {v : Value} {d : DataW H} {p : List MemPlace} (hv : Value.okWide Try.prog W r b0 31 v) (h : DataW.Trod enc Try.prog W 0 (fun _ => true) true 31 v d p) :
    ∃ (u v' iv bv dv pv : Value) (m : MD), v = .agg #[u, v', iv, bv, dv, pv, .int .i64 m.nx] ∧ MR W u v' iv bv dv pv m ∧ BigM maxLen m := by
  obtain ⟨cs, rfl, hsz⟩ := okWide_struct Try.underlying31 hv
  have hC : Try.prog.cellsOf 31 = 7 := by kernel_rfl
  rw [hC] at hsz
  obtain ⟨l, hl⟩ : ∃ l, cs = List.toArray l := ⟨cs.toList, rfl⟩
  subst hl
  match l, hsz with
  | [c0, c1, c2, c3, c4, c5, c6], _ =>
    obtain ⟨fuel, hf⟩ := h
    obtain ⟨xs, k, hk, hxy, _, hxl, hg⟩ := DataW.trod_struct Try.underlying31 hf
    match xs, hxl with
    | [y0, y1, y2, y3], _ =>
      have k28 : Try.prog.cellsOf 28 = 4 := by kernel_rfl
      have k22 : Try.prog.cellsOf 22 = 1 := by kernel_rfl
      have k45 : Try.prog.cellsOf 29 = 1 := by kernel_rfl
      have k3 : Try.prog.cellsOf 3 = 1 := by kernel_rfl
      have g0 := hg 0 _ rfl
      have g1 := hg 1 _ rfl
      have g2 := hg 2 _ rfl
      have g3 := hg 3 _ rfl
      simp [Value.cells, k28, k22, k45, k3] at g0 g1 g2 g3
      obtain ⟨z0, z1, z2, n, hx, _, h0, h1, h2⟩ := Go.Deep.trod_struct3 Try.underlying28 g0
      have q0 : Try.prog.cellsOf 24 = 2 := by kernel_rfl
      have q1 : Try.prog.cellsOf 25 = 1 := by kernel_rfl
      have q2 : Try.prog.cellsOf 26 = 1 := by kernel_rfl
      simp [q0, q1, q2] at h0 h1 h2
      obtain ⟨t0, t1, mm, hz, _, s0, s1⟩ := trod_struct2 Try.underlying24 h0
      simp [k22] at s0 s1
      obtain ⟨xl, hx1, hx2⟩ := flags_open s0
      obtain ⟨yl, hy1, hy2⟩ := flags_open s1
      obtain ⟨il, hi1, hi2, hi3⟩ := inos_open h1
      obtain ⟨bl, hb1, hb2, hb3⟩ := blks_open h2
      obtain ⟨fl, hf1, hf2⟩ := flags_open g1
      obtain ⟨dl, hd1, hd2, hd3⟩ := deps_open g2
      obtain ⟨nx, e3, -⟩ := DataW.trod_int Try.underlying3 g3
      simp at e3
      exact ⟨c0, c1, c2, c3, c4, c5, ⟨xl, yl, il, bl, fl, dl, nx⟩, by rw [e3], ⟨⟨hx1, hy1, hi1, hb1⟩, hf1, hd1⟩, ⟨⟨hx2, hy2, hi2, hi3, hb2, hb3⟩, hf2, hd2, fun j hj => (hd3 j hj).1, fun j hj => (hd3 j hj).2⟩⟩
end Go.Proofs.Ytgjbenbodegnjaa.open_
