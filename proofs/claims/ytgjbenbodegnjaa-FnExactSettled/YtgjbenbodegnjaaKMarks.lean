
/- Marks: laws.markText by its contract; one byte as a string. -/
import Derived.Test.YtgjbenbodegnjaaCom
import Derived.Test.YtgjbenbodegnjaaRows
import Derived.Test.YtgjbenbodegnjaaKitB
namespace Go.Proofs.Ytgjbenbodegnjaa.Kit
open Go.RowKit
/-- The figures of a number, with fuel; none for 0. -/
def decF : Nat → Nat → List UInt8
  | 0, _ => []
  | f + 1, n => if n = 0 then [] else decF f (n / 10) ++ [figB (n % 10)]
theorem decF_zero (f : Nat) : decF f 0 = [] := by cases f <;> simp [decF]
theorem decF_pos (f n : Nat) (h : n ≠ 0) : decF (f + 1) n = decF f (n / 10) ++ [figB (n % 10)] := by simp [decF, h]
theorem dec_step {n f m : Nat} {acc : List UInt8} (h : decF 20 n = decF (f + 1) m ++ acc) (hm : m ≠ 0) : decF 20 n = decF f (m / 10) ++ (figB (m % 10) :: acc) := by
  rw [h, decF_pos f m hm]; simp
/-- One byte as a string. -/
def oneB (b : UInt8) : ByteArray := ⟨#[b]⟩
theorem oneB_size (b : UInt8) : (oneB b).size = 1 := rfl
/-- Figures as a string. -/
def accB (l : List UInt8) : ByteArray := ⟨l.toArray⟩
theorem accB_cons (b : UInt8) (l : List UInt8) : oneB b ++ accB l = accB (b :: l) := by
  unfold oneB accB
  rw [show (⟨#[b]⟩ : ByteArray) = ⟨[b].toArray⟩ from rfl, ByteArray.mk_append_mk]
  simp
theorem accB_size (l : List UInt8) : (accB l).size = l.length := by simp [accB, ByteArray.size]
/-- The mark of a number. -/
def mkT (k : Nat) : ByteArray := accB (109 :: decF 20 k)
end Go.Proofs.Ytgjbenbodegnjaa.Kit
namespace Go.Proofs.Ytgjbenbodegnjaa
open Go.RowKit Kit
end Go.Proofs.Ytgjbenbodegnjaa
