
/- Marks: laws.markText by its contract; one byte as a string. -/
import Derived.Test.YtggjillpfclajaaGreatCom
import Derived.Test.YtggjillpfclajaaGreatRows
import Derived.Test.YtggjillpfclajaaGreatKitB
namespace Go.Proofs.YtggjillpfclajaaGreat.Kit
open Go.RowKit
/-- The figures of a number, with fuel; none for 0. -/
def decF : Nat → Nat → List UInt8
  | 0, _ => []
  | f + 1, n => if n = 0 then [] else decF f (n / 10) ++ [figB (n % 10)]
theorem decF_zero (f : Nat) : decF f 0 = [] := by cases f <;> simp [decF]
theorem decF_pos (f n : Nat) (h : n ≠ 0) : decF (f + 1) n = decF f (n / 10) ++ [figB (n % 10)] := by simp [decF, h]
theorem dec_step {n f m : Nat} {acc : List UInt8} (h : decF 20 n = decF (f + 1) m ++ acc) (hm : m ≠ 0) : decF 20 n = decF f (m / 10) ++ (figB (m % 10) :: acc) := by
  rw [h, decF_pos f m hm]; simp
/-- One byte as a string. -/
def oneB (b : UInt8) : ByteArray := ⟨#[b]⟩
theorem oneB_size (b : UInt8) : (oneB b).size = 1 := rfl
/-- Figures as a string. -/
def accB (l : List UInt8) : ByteArray := ⟨l.toArray⟩
theorem accB_cons (b : UInt8) (l : List UInt8) : oneB b ++ accB l = accB (b :: l) := by
  unfold oneB accB
  rw [show (⟨#[b]⟩ : ByteArray) = ⟨[b].toArray⟩ from rfl, ByteArray.mk_append_mk]
  simp
theorem accB_size (l : List UInt8) : (accB l).size = l.length := by simp [accB, ByteArray.size]
/-- The mark of a number. -/
def mkT (k : Nat) : ByteArray := accB (109 :: decF 20 k)
end Go.Proofs.YtggjillpfclajaaGreat.Kit
namespace Go.Proofs.YtggjillpfclajaaGreat
open Go.RowKit Kit
theorem conv_one (b : UInt8) (W : World) : (convert 122 9 (.slice (some ⟨W.heap.size, 0, none⟩) 1 1)).run Tryz.prog (W.alloc (.cells #[.int .u8 (b.toNat : Int)] 5)) = .ok (.string (oneB b)) (W.alloc (.cells #[.int .u8 (b.toNat : Int)] 5)) :=
  conv_own (P := Tryz.prog) 122 9 5 Tryz.underlying122 Tryz.underlying5 Tryz.underlying9 (base := 0) (l := [b]) (World.ownsRow_lit W #[.int .u8 (b.toNat : Int)] 1 (Nat.zero_le _) (by unfold maxLen; omega) rfl)

set_option maxRecDepth 100000 in
set_option maxHeartbeats 800000 in
theorem markText_any (n : Nat) (w : World) (h0 : n ≠ 0) (h1 : n ≤ 1000000000000000) :
    Calls Tryz.prog 67 #[.int .i64 n] w fun e w' => e = .returned (.string (mkT n)) ∧ Below w.heap.size w w' := by
  have m109 : (⟨#[109]⟩ : ByteArray) = oneB 109 := rfl
  go_enter Tryz.func67, Tryz.ntmps67
  go_wp2
  go_loopw [0, 3] (fun x t wr => ∃ (f m : Nat) (acc : List UInt8), x = .int .i64 m ∧ m ≤ 1000000000000000 ∧ m < 10 ^ f ∧ acc.length + f = 20 ∧ Hid (decF 20 n = decF f m ++ acc) ∧ t = .string (accB acc) ∧ Below w.heap.size w wr) (fun x _ _ => (intOf x).toNat)
  case atStart => exact ⟨20, n, [], rfl, h1, by omega, rfl, hide (by simp), rfl, Below.refl _ _⟩
  case round =>
    obtain ⟨f, m, acc, rfl, hm, hf, hl, HE, rfl, hb⟩ := hrel
    have hsz := hb.size
    have hz := accB_size acc
    have hz1 : (accB acc).size ≤ 20 := by omega
    clear hz
    by_cases hz : m = 0
    · have e : mkT n = accB (109 :: acc) := by unfold mkT; rw [HE.out, hz, decF_zero]; rfl
      have HF := hide e
      have HC := hide (accB_cons 109 acc)
      have hs1 := oneB_size 109
      clear e
      go_wp2
      go_ret
      exact ⟨by rw [HF.out, ← HC.out]; rfl, hb⟩
    · cases f with
      | zero => simp at hf; omega
      | succ f =>
      have HS := hide (dec_step HE.out hz)
      have HC := hide (accB_cons (figB (m % 10)) acc)
      obtain ⟨d, hd⟩ : ∃ d : Nat, (m : Int) % 10 = d := ⟨m % 10, by omega⟩
      have hd' : m % 10 = d := by omega
      rw [hd'] at HS HC
      have hd1 : d < 10 := by omega
      have hs1 := oneB_size (figB d)
      have hco := conv_one (figB d)
      have hfg := figB_lo d hd1
      rw [hfg] at hco
      clear hd' hfg
      go_wp2
      go_roundw
      case rel => exact ⟨f, m / 10, figB d :: acc, by go_num, by omega, by rw [Nat.pow_succ] at hf; omega, by simp; omega, HS, by rw [HC.out], hb.alloc hsz _⟩
      case measure => simp [intOf]; omega
theorem markText_int (x : Int) (w : World) (h0 : 0 < x) (h1 : x ≤ 1000000000000000) :
    Calls Tryz.prog 67 #[.int .i64 x] w fun e w' => e = .returned (.string (mkT x.toNat)) ∧ Below w.heap.size w w' := by
  obtain ⟨n, rfl⟩ := Int.eq_ofNat_of_zero_le (show 0 ≤ x by omega)
  rw [Int.toNat_natCast]
  exact markText_any n w (by omega) (by omega)
end Go.Proofs.YtggjillpfclajaaGreat
