/- spec.DirNew and impl.DirNew by their contracts. -/
import Derived.Test.YtfffiboggpjjkaaEq
namespace Go.Proofs.Ytfffiboggpjjkaa
open Go.RowKit Kit
/-- Four slots without anything. -/
def noSl : List Sl := [(⟨#[]⟩, 0), (⟨#[]⟩, 0), (⟨#[]⟩, 0), (⟨#[]⟩, 0)]
def noCells : Array Value := #[.string ⟨#[]⟩, .int .i64 0, .string ⟨#[]⟩, .int .i64 0, .string ⟨#[]⟩, .int .i64 0, .string ⟨#[]⟩, .int .i64 0]
theorem make4 (w : World) : (Instr.makeSlice 24 (.int .i64 4) (.int .i64 4)).run Try.prog w = .ok (.slice (some ⟨w.heap.size, 0, none⟩) 4 4) (w.alloc (.cells noCells 36)) := by kernel_rfl
theorem own4 (w : World) (base : Nat) (hb : base ≤ w.heap.size) : SOwns (w.alloc (.cells noCells 36)) base 36 (.slice (some ⟨w.heap.size, 0, none⟩) 4 4) noSl :=
  SOwns.lit w base 36 noCells noSl rfl hb (by simp [noSl, maxLen])
end Go.Proofs.Ytfffiboggpjjkaa
namespace Go.Proofs.Ytfffiboggpjjkaa.Kit
open Go.RowKit
theorem SOwns.form4 {w : World} {base : Nat} {e : TypeId} {v : Value} (h : SOwns w base e v noSl) : ∃ a c, v = .slice a 4 c := by
  obtain ⟨a, c, h1, _⟩ := h.form
  exact ⟨a, c, h1⟩
end Go.Proofs.Ytfffiboggpjjkaa.Kit
namespace Go.Proofs.Ytfffiboggpjjkaa
open Go.RowKit Kit
theorem specNew_any (w : World) :
    Calls Try.prog 26 #[] w fun e w' => ∃ v, e = .returned (.agg #[.bool true, v, .string ⟨#[]⟩]) ∧ SOwns w' w.heap.size 36 v noSl ∧ Below w.heap.size w w' := by
  have mk := make4
  have HO := hide (fun o1 => own4 (w.alloc o1) w.heap.size (by simp))
  go_enter Try.func26, Try.ntmps26
  go_wp2
  refine bodyPost_ret (v := .agg #[.bool true, .slice (some ⟨w.heap.size + 1, 0, none⟩) 4 4, .string ⟨#[]⟩]) (by simp [results, go_sem]) rfl ⟨_, rfl, by simpa using HO.out _, ((Below.refl _ w).alloc (Nat.le_refl _) _).alloc (by simp) _⟩
theorem implNew_any (w : World) :
    Calls Try.prog 21 #[] w fun e w' => ∃ v, e = .returned (.agg #[.bool true, v, .string ⟨#[]⟩]) ∧ SOwns w' w.heap.size 36 v noSl ∧ Below w.heap.size w w' := by
  have mk := make4
  have HO := hide (fun o1 => own4 (w.alloc o1) w.heap.size (by simp))
  go_enter Try.func21, Try.ntmps21
  go_wp2
  refine bodyPost_ret (v := .agg #[.bool true, .slice (some ⟨w.heap.size + 1, 0, none⟩) 4 4, .string ⟨#[]⟩]) (by simp [results, go_sem]) rfl ⟨_, rfl, by simpa using HO.out _, ((Below.refl _ w).alloc (Nat.le_refl _) _).alloc (by simp) _⟩
end Go.Proofs.Ytfffiboggpjjkaa
