/- Texts of the proof, bundled: KRd, KWords, Bk, So, IOk, IRight, IROf, IText, ITextI, IArg, KName, KPlace, KRight, KOkI, KOk, KOkS, Okd, Tm, Mr, Rg, Rh, Fd, Tp, Idl, Ua, Cn, Tx, Or, Aem, Nd, Stn, Opnn. -/
import Derived.Test.YtmjhgfkplolelaaGreatRows
import Derived.Deep.RegionWith
import Derived.Deep.QuietTactic
import Derived.BigQuiet
import Derived.Deep.RegionHeld3
import Derived.RegionTactic
import Derived.BigRegion
import Derived.Deep.RegionHeld
import Derived.Deep.AppendLies
import Derived.Deep.DeepCutAuto
import Derived.Deep.CutRange
import Derived.Handy
import Derived.Laws.Cover1
import Derived.Deep.OwnRows
import Derived.WalkKit
import Derived.ProofKit
import Derived.OpenShut
import Derived.ShutString
import Derived.ChangeOld
import Derived.Below
import Derived.Lib.SmallJoins
import Derived.Deep.SlicePairs
import Derived.Deep.Grids
import Derived.Test.YtmjhgfkplolelaaGreatU01
/- Plain facts on reading a number in base 128: what is read, and that just the shortest form is its own bytes; no Go function is spoken of. -/
namespace Go.Proofs.YtmjhgfkplolelaaGreat.Kit
open Go.RowKit

/-- The number that bytes tell, the lowest first. -/
def val : List UInt8 → Nat
  | [] => 0
  | c :: r => c.toNat % 128 + 128 * val r

theorem val_snoc (l : List UInt8) (c : UInt8) : val (l ++ [c]) = val l + c.toNat % 128 * 128 ^ l.length := by
  induction l with
  | nil => simp [val]
  | cons a r ih =>
    simp only [List.cons_append, val, ih, List.length_cons]
    rw [Nat.pow_succ, Nat.mul_add, Nat.add_assoc, ← Nat.mul_assoc, ← Nat.mul_assoc, Nat.mul_comm (c.toNat % 128 * 128 ^ r.length) 128, Nat.mul_assoc]

theorem val_lt (l : List UInt8) : val l < 128 ^ l.length := by
  induction l with
  | nil => simp [val]
  | cons a r ih =>
    simp only [val, List.length_cons]
    rw [Nat.pow_succ]
    have : a.toNat % 128 < 128 := Nat.mod_lt _ (by decide)
    omega

/-- Reading: with fuel, the rest, how many were read, what they tell. -/
def rdF : Nat → List UInt8 → Nat → Nat → Option (Nat × Nat)
  | 0, _, _, _ => none
  | _ + 1, [], _, _ => none
  | f + 1, c :: r, k, n => if 128 ≤ c.toNat then rdF f r (k + 1) (n + c.toNat % 128 * 128 ^ k)
      else if 1000000000 < n + c.toNat % 128 * 128 ^ k ∨ (c.toNat = 0 ∧ 0 < k) then none else some (n + c.toNat % 128 * 128 ^ k, k + 1)

/-- What is read of a text from a place on. -/
def rd (s : ByteArray) (p : Nat) : Option (Nat × Nat) := rdF 5 (s.data.toList.drop p) 0 0

theorem vbF_ne (f n : Nat) : vbF f n ≠ [] := by
  cases f with
  | zero => simp [vbF]
  | succ f => unfold vbF; split <;> simp

theorem vbF_last (f : Nat) : ∀ n, 0 < n → n < 128 ^ (f + 1) → ∀ l c, vbF f n = l ++ [c] → c.toNat ≠ 0 := by
  induction f with
  | zero =>
    intro n h0 h1 l c h
    simp only [vbF] at h
    have : c = loB n := by
      cases l with
      | nil => simpa using h.symm
      | cons a t => simp at h
    subst this
    have h2 : n < 128 := by simpa using h1
    simp [loB, UInt8.toNat_ofNat']; omega
  | succ f ih =>
    intro n h0 h1 l c h
    by_cases hb : 127 < n
    · rw [vbF_big f n hb] at h
      cases l with
      | nil => simp at h; exact absurd h.2 (vbF_ne _ _)
      | cons a t =>
        simp at h
        refine ih (n / 128) (by omega) ?_ t c h.2
        rw [Nat.pow_succ] at h1
        omega
    · rw [vbF_small _ n (by omega)] at h
      have : c = loB n := by
        cases l with
        | nil => simpa using h.symm
        | cons a t => simp at h
      subst this
      simp [loB, UInt8.toNat_ofNat']; omega

theorem vbF_val (pre : List UInt8) : ∀ (f : Nat) (c : UInt8), pre.length ≤ f → (∀ b ∈ pre, 128 ≤ b.toNat) → c.toNat < 128 → (c.toNat ≠ 0 ∨ pre = []) →
    vbF f (val (pre ++ [c])) = pre ++ [c] := by
  induction pre with
  | nil =>
    intro f c _ _ hc _
    have hv : val ([] ++ [c]) = c.toNat := by simp [val]; omega
    rw [hv, vbF_small _ _ (by omega)]
    simp [loB]
  | cons b r ih =>
    intro f c hl hb hc hn
    have hc0 : c.toNat ≠ 0 := by simpa using hn
    cases f with
    | zero => simp at hl
    | succ f =>
      have hb0 : 128 ≤ b.toNat := hb b (by simp)
      have hb1 : b.toNat < 256 := b.toNat_lt
      have hpos : 0 < val (r ++ [c]) := by
        rw [val_snoc]
        have h1 : 0 < 128 ^ r.length := Nat.pow_pos (by decide)
        have h2 : 0 < c.toNat % 128 := by omega
        have := Nat.mul_pos h2 h1
        omega
      have hv : val (b :: r ++ [c]) = b.toNat % 128 + 128 * val (r ++ [c]) := rfl
      rw [hv, vbF_big f _ (by omega)]
      have e1 : (b.toNat % 128 + 128 * val (r ++ [c])) / 128 = val (r ++ [c]) := by omega
      have e2 : hiB (b.toNat % 128 + 128 * val (r ++ [c])) = b := by
        unfold hiB
        rw [show (b.toNat % 128 + 128 * val (r ++ [c])) % 128 + 128 = b.toNat by omega]
        simp
      rw [e1, e2, ih f c (by simpa using hl) (fun x hx => hb x (by simp [hx])) hc (.inl hc0)]
      rfl

/-- Just the shortest form is its own bytes. -/
theorem vb_val_iff (pre : List UInt8) (c : UInt8) (hl : pre.length ≤ 8) (hb : ∀ b ∈ pre, 128 ≤ b.toNat) (hc : c.toNat < 128) :
    vb (val (pre ++ [c])) = pre ++ [c] ↔ ¬ (c.toNat = 0 ∧ 0 < pre.length) := by
  constructor
  · rintro h ⟨h0, hp⟩
    by_cases hz : val (pre ++ [c]) = 0
    · rw [hz] at h
      have : (vb 0).length = 1 := rfl
      rw [h] at this
      simp at this
      simp [this] at hp
    · have hlt := val_lt (pre ++ [c])
      have hle : 128 ^ (pre ++ [c]).length ≤ 128 ^ (9 + 1) := Nat.pow_le_pow_right (by decide) (by simp; omega)
      exact vbF_last 9 _ (by omega) (by omega) pre c h h0
  · intro h
    refine vbF_val pre 9 c (by omega) hb hc ?_
    by_cases h0 : c.toNat = 0
    · right
      have : ¬ 0 < pre.length := fun hp => h ⟨h0, hp⟩
      exact List.length_eq_zero_iff.1 (by omega)
    · exact .inl h0

/-- What the walks of the two readers share: k bytes from p on were read, each goes on, they tell n, and what is read in the end is what is read from here on. -/
def AtK (s : ByteArray) (p k n : Nat) : Prop :=
  ∃ pre rest : List UInt8, s.data.toList.drop p = pre ++ rest ∧ pre.length = k ∧ (∀ b ∈ pre, 128 ≤ b.toNat) ∧ n = val pre ∧ rd s p = rdF (5 - k) rest k n

theorem AtK.start (s : ByteArray) (p : Nat) : AtK s p 0 0 := ⟨[], s.data.toList.drop p, rfl, rfl, by simp, rfl, rfl⟩

theorem AtK.lt {s : ByteArray} {p k n : Nat} (h : AtK s p k n) : n < 128 ^ k := by
  obtain ⟨pre, rest, _, rfl, _, rfl, _⟩ := h
  exact val_lt pre

theorem drop_head {s : ByteArray} {p k : Nat} {pre rest : List UInt8} (h : s.data.toList.drop p = pre ++ rest) (hk : pre.length = k) (hlt : p + k < s.size) : rest = s[p + k] :: rest.tail := by
  have h1 : (s.data.toList.drop p).drop k = rest := by rw [h, ← hk]; simp
  rw [List.drop_drop] at h1
  have h2 : p + k < s.data.toList.length := by simpa using hlt
  rw [List.drop_eq_getElem_cons h2] at h1
  rw [← h1]
  rfl

theorem AtK.out {s : ByteArray} {p k n : Nat} (h : AtK s p k n) (hx : s.size ≤ p + k ∨ 5 ≤ k) : rd s p = none := by
  obtain ⟨pre, rest, hd, hk, _, rfl, hr⟩ := h
  rw [hr]
  by_cases h5 : 5 ≤ k
  · rw [show 5 - k = 0 by omega]; rfl
  · have hs : s.size ≤ p + k := by omega
    have : rest = [] := by
      have hl := congrArg List.length hd
      simp at hl
      apply List.length_eq_zero_iff.1
      have : s.data.size = s.size := rfl
      omega
    subst this
    rw [show 5 - k = (4 - k) + 1 by omega]
    rfl

theorem AtK.next {s : ByteArray} {p k n : Nat} (h : AtK s p k n) (hlt : p + k < s.size) (h5 : k < 5) (hc : 128 ≤ (s[p + k]).toNat) :
    AtK s p (k + 1) (n + (s[p + k]).toNat % 128 * 128 ^ k) := by
  obtain ⟨pre, rest, hd, hk, hb, rfl, hr⟩ := h
  have hrest := drop_head hd hk hlt
  refine ⟨pre ++ [s[p + k]], rest.tail, ?_, by simp [hk], ?_, ?_, ?_⟩
  · rw [hd]; simp [List.append_assoc, ← hrest]
  · intro b hb'
    rcases List.mem_append.1 hb' with h1 | h1
    · exact hb b h1
    · simp at h1; subst h1; exact hc
  · rw [val_snoc, hk]
  · rw [hr]
    conv => lhs; rw [hrest, show 5 - k = (5 - (k + 1)) + 1 by omega]
    rw [rdF, if_pos hc]

theorem AtK.stop {s : ByteArray} {p k n : Nat} (h : AtK s p k n) (hlt : p + k < s.size) (h5 : k < 5) (hc : (s[p + k]).toNat < 128) :
    rd s p = if 1000000000 < n + (s[p + k]).toNat % 128 * 128 ^ k ∨ ((s[p + k]).toNat = 0 ∧ 0 < k) then none else some (n + (s[p + k]).toNat % 128 * 128 ^ k, k + 1) := by
  obtain ⟨pre, rest, hd, hk, hb, rfl, hr⟩ := h
  have hrest := drop_head hd hk hlt
  rw [hr]
  conv => lhs; rw [hrest, show 5 - k = (5 - (k + 1)) + 1 by omega]
  rw [rdF, if_neg (by omega)]

theorem extract_toList (s : ByteArray) (a b : Nat) : (s.extract a b).data.toList = (s.data.toList.drop a).take (b - a) := by
  simp [ByteArray.data_extract, List.take_drop]

theorem AtK.form {s : ByteArray} {p k n : Nat} (h : AtK s p k n) (hlt : p + k < s.size) (h5 : k < 5) (hc : (s[p + k]).toNat < 128) :
    vb (n + (s[p + k]).toNat % 128 * 128 ^ k) = (s.extract p (p + k + 1)).data.toList ↔ ¬ ((s[p + k]).toNat = 0 ∧ 0 < k) := by
  obtain ⟨pre, rest, hd, hk, hb, rfl, _⟩ := h
  have hrest := drop_head hd hk hlt
  have e : (s.extract p (p + k + 1)).data.toList = pre ++ [s[p + k]] := by
    rw [extract_toList, hd, hrest, show p + k + 1 - p = pre.length + 1 by omega, List.take_append]
    simp [List.take_of_length_le]
  have := vb_val_iff pre s[p + k] (by omega) hb hc
  rw [val_snoc, hk] at this
  rw [e]
  exact this
end Go.Proofs.YtmjhgfkplolelaaGreat.Kit
/- Contracts of the words' functions at this seat: l01In, l01Var, VarText, ShortText, ReadVar, ReadShort, Clone. -/
namespace Go.Proofs.YtmjhgfkplolelaaGreat
open Go.RowKit Kit

theorem Tryz.info5 : (Tryz.prog.info? 5).map (fun i => (i.zero, i.size, i.bytes)) = some (some (.int .u8 0), 1, 1) := by kernel_rfl
theorem vb_big {n f m : Nat} {pre : List UInt8} (h : 127 < m) (hv : vb n = pre ++ vbF (f + 1) m) : vb n = (pre ++ [hiB m]) ++ vbF f (m / 128) := by
  rw [hv, vbF_big f m h]; simp
theorem vb_small {n f m : Nat} {pre : List UInt8} (h : m ≤ 127) (hv : vb n = pre ++ vbF f m) : pre ++ [loB m] = vb n := by
  rw [hv, vbF_small f m h]
theorem byte_big (m : Nat) : (m : Int) % 128 + 128 = ((hiB m).toNat : Int) := by
  simp [hiB, UInt8.toNat_ofNat']; omega
theorem byte_small (m : Nat) (h : m ≤ 127) : (m : Int) = ((loB m).toNat : Int) := by
  simp [loB, UInt8.toNat_ofNat']; omega
def inB (x a b : Int) : Bool := decide (a ≤ x ∧ x ≤ b)
theorem inB_true {x a b : Int} (h : inB x a b = true) : a ≤ x ∧ x ≤ b := of_decide_eq_true h
theorem inB_false {x a b : Int} (h : inB x a b = false) : x < a ∨ b < x := by
  have := of_decide_eq_false h
  omega
theorem l01In_any (x a b : Int) (w : World) :
    Calls Tryz.prog 52 #[.int .i64 x, .int .i64 a, .int .i64 b] w fun e w' => e = .returned (.bool (inB x a b)) ∧ w' = w := by
  by_cases h0 : a ≤ x
  · by_cases h1 : x ≤ b
    · have hv : inB x a b = true := by simp [inB, h0, h1]
      have HV := hide hv
      clear hv
      go_enter Tryz.func52, Tryz.ntmps52
      go_wp2
      go_ret
      exact ⟨by rw [HV.out]; simp, rfl⟩
    · have hv : inB x a b = false := by simp [inB, h1]
      have HV := hide hv
      clear hv
      go_enter Tryz.func52, Tryz.ntmps52
      go_wp2
      go_ret
      exact ⟨by rw [HV.out]; simp, rfl⟩
  · have hv : inB x a b = false := by simp [inB, h0]
    have HV := hide hv
    clear hv
    go_enter Tryz.func52, Tryz.ntmps52
    go_wp2
    go_ret
    exact ⟨by rw [HV.out]; simp, rfl⟩

/-- The bytes of a length, as a string. -/
def headOf (n : Nat) : ByteArray := ⟨(vb n).toArray⟩
theorem headOf_size (n : Nat) : (headOf n).size ≤ 10 := by
  have := vbF_len 9 n
  simp only [headOf, ByteArray.size, vb, List.size_toArray]
  omega
/-- What is answered. -/
def rdVal (s : ByteArray) (p : Nat) : Value := match rd s p with
  | none => .tuple #[.int .i64 0, .int .i64 0, .bool false]
  | some (n, c) => .tuple #[.int .i64 n, .int .i64 (p + c : Nat), .bool true]
theorem rdVal_none {s : ByteArray} {p : Nat} (h : rd s p = none) : rdVal s p = .tuple #[.int .i64 0, .int .i64 0, .bool false] := by simp [rdVal, h]
theorem rdVal_some {s : ByteArray} {p n c : Nat} (h : rd s p = some (n, c)) : rdVal s p = .tuple #[.int .i64 n, .int .i64 (p + c : Nat), .bool true] := by simp [rdVal, h]
theorem pow_le {k : Nat} (h : k < 5) : 128 ^ k ≤ 268435456 := by
  have : 128 ^ k ≤ 128 ^ 4 := Nat.pow_le_pow_right (by decide) (by omega)
  simpa using this
theorem at_next {s : ByteArray} {p k m W c : Nat} (h : AtK s p k m) (hW : W = 128 ^ k) (hlt : p + k < s.size) (h5 : k < 5) (hc : (s[p + k]).toNat = c) (h1 : 127 < c) :
    AtK s p (k + 1) (m + c % 128 * W) ∧ m + c % 128 * W < W * 128 := by
  subst hW hc
  have hn := h.next hlt h5 (by omega)
  exact ⟨hn, by have := hn.lt; rwa [Nat.pow_succ] at this⟩
theorem at_none {s : ByteArray} {p k m W c : Nat} (h : AtK s p k m) (hW : W = 128 ^ k) (hlt : p + k < s.size) (h5 : k < 5) (hc : (s[p + k]).toNat = c) (h1 : c ≤ 127) (h2 : 1000000000 < m + c % 128 * W ∨ (c = 0 ∧ 0 < k)) :
    rdVal s p = .tuple #[.int .i64 0, .int .i64 0, .bool false] := by
  subst hW hc
  refine rdVal_none ?_
  rw [h.stop hlt h5 (by omega), if_pos h2]
theorem at_some {s : ByteArray} {p k m W c : Nat} (h : AtK s p k m) (hW : W = 128 ^ k) (hlt : p + k < s.size) (h5 : k < 5) (hc : (s[p + k]).toNat = c) (h1 : c ≤ 127) (h2 : ¬ (1000000000 < m + c % 128 * W ∨ (c = 0 ∧ 0 < k))) :
    rdVal s p = .tuple #[.int .i64 ((m : Int) + (c : Int) % 128 * (W : Int)), .int .i64 ((p : Int) + (k : Int) + 1), .bool true] := by
  subst hW hc
  have e := h.stop hlt h5 (by omega)
  rw [if_neg h2] at e
  rw [rdVal_some e]
  have e1 : ((m + (s[p + k]).toNat % 128 * 128 ^ k : Nat) : Int) = (m : Int) + ((s[p + k]).toNat : Int) % 128 * ((128 ^ k : Nat) : Int) := by
    rw [Int.natCast_add, Int.natCast_mul, Int.natCast_emod]; rfl
  rw [e1]
  simp only [Int.natCast_add]
  rw [show (p : Int) + ((k : Int) + ((1 : Nat) : Int)) = (p : Int) + (k : Int) + 1 by omega]
theorem cast3 (m c W : Nat) : ((m + c % 128 * W : Nat) : Int) = (m : Int) + (c : Int) % 128 * (W : Int) := by simp
theorem form_eq {s : ByteArray} {p k m W c : Nat} (h : AtK s p k m) (hW : W = 128 ^ k) (hlt : p + k < s.size) (h5 : k < 5) (hc : (s[p + k]).toNat = c) (h1 : c ≤ 127) :
    headOf (m + c % 128 * W) = s.extract p (p + k + 1) ↔ ¬ (c = 0 ∧ 0 < k) := by
  subst hW hc
  rw [← h.form hlt h5 (by omega)]
  constructor
  · intro e; rw [← e]; rfl
  · intro e
    unfold headOf
    rw [e]
theorem toNat3 (p k : Nat) : ((p : Int) + (k : Int) + 1).toNat = p + k + 1 := by omega
theorem form_no {s : ByteArray} {p k T c m W : Nat} (hT : m + c % 128 * W = T) (hf : headOf (m + c % 128 * W) = s.extract p (p + k + 1) ↔ ¬ (c = 0 ∧ 0 < k)) (h : (!(headOf T).toList == (s.extract p ((p : Int) + (k : Int) + 1).toNat).toList) = true) : c = 0 ∧ 0 < k := by
  rw [hT] at hf
  rw [toNat3] at h
  apply Classical.byContradiction
  intro hn
  rw [hf.2 hn] at h
  simp at h
theorem form_yes {s : ByteArray} {p k T c m W : Nat} (hT : m + c % 128 * W = T) (hf : headOf (m + c % 128 * W) = s.extract p (p + k + 1) ↔ ¬ (c = 0 ∧ 0 < k)) (h : (!(headOf T).toList == (s.extract p ((p : Int) + (k : Int) + 1).toNat).toList) = false) : ¬ (c = 0 ∧ 0 < k) := by
  rw [hT] at hf
  rw [toNat3] at h
  refine hf.1 ?_
  have h1 : (headOf T).toList = (s.extract p (p + k + 1)).toList := by simpa using h
  rw [ByteArray.toList_eq, ByteArray.toList_eq] at h1
  exact Go.WideShapes.bytes_inj h1
theorem of_drew {w w1 : World} (h : Below w.drew.heap.size w.drew w1) : Below w.heap.size w w1 := (Below.refl _ w).drew.trans h
theorem wrapId {x : Int} (h0 : 0 ≤ x) (h1 : x ≤ 1000000000000) : IntKind.i64.wrap x = x := by
  simp [IntKind.wrap, IntKind.signed, IntKind.bits]
  omega
theorem rdVal_form (s : ByteArray) (p : Nat) : ∃ (a b : Int) (c : Bool), rdVal s p = .tuple #[.int .i64 a, .int .i64 b, .bool c] := by
  unfold rdVal
  split
  · exact ⟨0, 0, false, rfl⟩
  · exact ⟨_, _, true, rfl⟩

theorem rdF_bound (f : Nat) : ∀ (rest : List UInt8) (k n m c : Nat), rdF f rest k n = some (m, c) → m ≤ 1000000000 ∧ c ≤ k + rest.length := by
  induction f with
  | zero => intro rest k n m c h; simp [rdF] at h
  | succ f ih =>
    intro rest k n m c h
    cases rest with
    | nil => simp [rdF] at h
    | cons b r =>
      rw [rdF] at h
      split at h
      · have := ih _ _ _ _ _ h
        simp only [List.length_cons]
        omega
      · split at h
        · cases h
        · simp only [Option.some.injEq, Prod.mk.injEq] at h
          simp only [List.length_cons]
          omega
theorem rd_bound {s : ByteArray} {p n c : Nat} (hp : p ≤ s.size) (h : rd s p = some (n, c)) : n ≤ 1000000000 ∧ p + c ≤ s.size := by
  have := rdF_bound 5 _ 0 0 n c h
  have h2 : s.data.toList.length = s.size := by simp
  rw [List.length_drop, h2] at this
  omega
/-- What is answered. -/
def rsVal (s : ByteArray) (p : Nat) : Value := match rd s p with
  | none => .tuple #[.string ⟨#[]⟩, .int .i64 0, .bool false]
  | some (n, c) => if 20000 < n ∨ s.size - (p + c) < n then .tuple #[.string ⟨#[]⟩, .int .i64 0, .bool false]
      else .tuple #[.string (s.extract (p + c) (p + c + n)), .int .i64 (p + c + n : Nat), .bool true]
theorem rsVal_none {s : ByteArray} {p : Nat} (h : rd s p = none) : rsVal s p = .tuple #[.string ⟨#[]⟩, .int .i64 0, .bool false] := by simp [rsVal, h]
theorem rsVal_bad {s : ByteArray} {p n c : Nat} (h : rd s p = some (n, c)) (h1 : 20000 < n ∨ s.size - (p + c) < n) : rsVal s p = .tuple #[.string ⟨#[]⟩, .int .i64 0, .bool false] := by simp [rsVal, h, h1]
theorem rsVal_good {s : ByteArray} {p n c : Nat} (h : rd s p = some (n, c)) (h1 : ¬ (20000 < n ∨ s.size - (p + c) < n)) : rsVal s p = .tuple #[.string (s.extract (p + c) (p + c + n)), .int .i64 (p + c + n : Nat), .bool true] := by simp [rsVal, h, h1]
theorem rsVal_form (s : ByteArray) (p : Nat) : ∃ (a : ByteArray) (b : Int) (c : Bool), rsVal s p = .tuple #[.string a, .int .i64 b, .bool c] := by
  unfold rsVal
  split
  · exact ⟨_, 0, false, rfl⟩
  · split
    · exact ⟨_, 0, false, rfl⟩
    · exact ⟨_, _, true, rfl⟩
end Go.Proofs.YtmjhgfkplolelaaGreat
/- Of the specification: l11Block by its contract. -/
namespace Go.Proofs.YtmjhgfkplolelaaGreat
open Go.RowKit Kit
/-- The block with a number, without text where there is none. -/
def blkAt (bs : List Blk) (x : Int) : Blk := if inB x 1 bs.length = true then bs.getD (x - 1).toNat (false, [], ⟨#[]⟩) else (false, [], ⟨#[]⟩)
set_option maxRecDepth 100000 in
set_option maxHeartbeats 1600000 in
theorem blk_any (x : Int) (u v iv bv : Value) (xs ys : List Bool) (is : List Ino) (bs : List Blk) (w0 w : World) (h : DR w0 u v iv bv xs ys is bs) (h0 : Below w0.heap.size w0 w) (hl : bs.length ≤ 1048576) :
    Calls Tryz.prog 85 #[.agg #[u, v, iv, bv], .int .i64 x] w fun e w' => ∃ sv, e = .returned (.tuple #[.agg #[.bool (blkAt bs x).1, sv, .string (blkAt bs x).2.2], .bool (inB x 1 bs.length)]) ∧ RSl w0 sv (blkAt bs x).2.1 ∧ Below w.heap.size w w' := by
  have HZ := hide h0
  obtain ⟨a4, c4, rfl, -, hc⟩ := h.k
  have HC := hide hc
  clear h hc h0
  have HB : Hid (∀ A, Below w.heap.size w (((w.alloc (.cells A 47)).alloc (.cells #[.bool false, .slice none 0 0, .string ⟨#[]⟩] 101)))) := fun A => ((Below.refl _ w).alloc (Nat.le_refl _) _).alloc (by simp) _
  cases hb : inB x 1 bs.length with
  | false =>
    have HX := hide hb
    have e0 : blkAt bs x = (false, [], ⟨#[]⟩) := by unfold blkAt; rw [hb]; rfl
    rw [e0]
    clear hb e0
    go_enter Tryz.func85, Tryz.ntmps85
    go_wp2_with fail
    refine (l01In_any x 1 _ _).mono ?_
    rintro e w1 ⟨rfl, rfl⟩
    rw [HX.out]
    go_wp2
    refine bodyPost_ret (v := .tuple #[.agg #[.bool false, .slice none 0 0, .string ⟨#[]⟩], .bool false]) (by simp [results, go_sem]) rfl ⟨_, rfl, ?_, ?_⟩
    · exact ⟨none, 0, rfl, Nat.le_refl _, fun j hj => by simp at hj⟩
    · exact HB.out _
  | true =>
    have HX := hide hb
    obtain ⟨h1, h2⟩ := inB_true hb
    obtain ⟨j, rfl⟩ : ∃ j : Nat, x = (j : Int) + 1 := ⟨(x - 1).toNat, by omega⟩
    have hj : j < bs.length := by omega
    have e0 : blkAt bs ((j : Int) + 1) = bs[j] := by
      unfold blkAt
      rw [hb, if_pos rfl, show ((j : Int) + 1 - 1).toNat = j by omega]
      simp [hj]
    rw [e0]
    clear hb e0
    obtain ⟨g, off, t, rfl, hg, k0, k1, k2, r1, r2, r3⟩ := HC.out j hj
    replace k0 := (HZ.out.cell (p := ⟨g, off + j * 3, none⟩) hg).trans k0
    replace k1 := (HZ.out.cell (p := ⟨g, off + j * 3 + 1, none⟩) hg).trans k1
    replace k2 := (HZ.out.cell (p := ⟨g, off + j * 3 + 2, none⟩) hg).trans k2
    replace hg : g < w.heap.size := Nat.lt_of_lt_of_le hg HZ.out.size
    obtain ⟨t0, t1, t2⟩ := t
    simp only at r1 r2 r3 k0 k1 k2
    subst r1 r3
    generalize bs[j].1 = d at *
    generalize bs[j].2.2 = tx at *
    generalize bs[j].2.1 = ss at *
    have HR := hide r2
    obtain ⟨pa, pc, rfl, -⟩ := r2
    have HB2 : Hid (∀ (A B : Array Value), Below w.heap.size w ((w.alloc (.cells A 47)).alloc (.cells B 101))) := fun A B => ((Below.refl _ w).alloc (Nat.le_refl _) _).alloc (by simp) _
    have n0 : ((w.alloc (.cells #[u, v, iv, .slice (some ⟨g, off, none⟩) bs.length c4] 47)).alloc (.cells #[.bool false, .slice none 0 0, .string ⟨#[]⟩] 101)).cell? ⟨g, off + j * 3, none⟩ = some (.bool d) := ((HB.out _).cell (p := ⟨g, off + j * 3, none⟩) hg).trans k0
    have n1 : ((w.alloc (.cells #[u, v, iv, .slice (some ⟨g, off, none⟩) bs.length c4] 47)).alloc (.cells #[.bool false, .slice none 0 0, .string ⟨#[]⟩] 101)).cell? ⟨g, off + j * 3 + 1, none⟩ = some (.slice pa ss.length pc) := ((HB.out _).cell (p := ⟨g, off + j * 3 + 1, none⟩) hg).trans k1
    have n2 : ((w.alloc (.cells #[u, v, iv, .slice (some ⟨g, off, none⟩) bs.length c4] 47)).alloc (.cells #[.bool false, .slice none 0 0, .string ⟨#[]⟩] 101)).cell? ⟨g, off + j * 3 + 2, none⟩ = some (.string tx) := ((HB.out _).cell (p := ⟨g, off + j * 3 + 2, none⟩) hg).trans k2
    have j0 : (0 : Int) ≤ (j : Int) := by omega
    have j1 : (j : Int) < (bs.length : Int) := by omega
    clear k0 k1 k2
    go_enter Tryz.func85, Tryz.ntmps85
    go_wp2_with fail
    refine (l01In_any _ 1 _ _).mono ?_
    rintro e w1 ⟨rfl, rfl⟩
    rw [HX.out]
    go_wp2
    refine bodyPost_ret (v := .tuple #[.agg #[.bool d, .slice pa ss.length pc, .string tx], .bool true]) (by simp [results, go_sem]) rfl ⟨_, rfl, ?_, ?_⟩
    · exact HR.out
    · exact HB2.out _ _
end Go.Proofs.YtmjhgfkplolelaaGreat
/- Of the specification: SlotOf by its contract. -/
namespace Go.Proofs.YtmjhgfkplolelaaGreat
open Go.RowKit Kit
theorem emp_false {s : ByteArray} (h : 0 < s.size) : s.toList.isEmpty = false := by
  rw [List.isEmpty_eq_false_iff, ByteArray.toList_eq]
  intro e
  have h2 : s.data.toList.length = s.size := rfl
  rw [e, List.length_nil] at h2
  omega
theorem beq_false {a b : ByteArray} (h : ¬ a = b) : (a.toList == b.toList) = false := by
  rw [beq_eq_false_iff_ne, ByteArray.toList_eq, ByteArray.toList_eq]
  intro e
  exact h (ByteArray.ext (Array.toList_inj.1 e))
/-- What SlotOf answers: no slot, or one of the name, which is not empty. -/
def SlotIs (ss : List Sl) (nm : ByteArray) (k : Int) : Prop := (k = -1 ∧ (nm.size ≠ 0 → ∀ (i : Nat) (hi : i < ss.length), ¬ ss[i].1 = nm)) ∨ ∃ (j : Nat) (hj : j < ss.length), k = (j : Int) ∧ ss[j].1 = nm ∧ nm.size ≠ 0 ∧ ∀ (i : Nat) (hi : i < j), ¬ (ss[i]'(Nat.lt_trans hi hj)).1 = nm
set_option maxRecDepth 100000 in
set_option maxHeartbeats 1600000 in
theorem slot_any (d : Bool) (sv : Value) (ss : List Sl) (tx nm : ByteArray) (w : World) (h : RSl w sv ss) (hl : ss.length ≤ 1048576) :
    Calls Tryz.prog 86 #[.agg #[.bool d, sv, .string tx], .string nm] w fun e w' => ∃ k : Int, e = .returned (.int .i64 k) ∧ SlotIs ss nm k ∧ Below w.heap.size w w' := by
  have H := hide h
  obtain ⟨a, c, rfl, -, hc⟩ := h
  obtain ⟨W0, hW0⟩ : ∃ W0, w.alloc (.cells #[.bool d, .slice a ss.length c, .string tx] 101) = W0 := ⟨_, rfl⟩
  have HB : Hid (Below w.heap.size w W0) := by rw [← hW0]; exact (Below.refl _ w).alloc (Nat.le_refl _) _
  have x1 : W0.cell? ⟨w.heap.size, 1, none⟩ = some (.slice a ss.length c) := by rw [← hW0]; exact (AtC.new w 101 _).cell 1
  have HC : Hid (∀ (j : Nat) (hj : j < ss.length), ∃ g off, a = some ⟨g, off, none⟩ ∧ W0.cell? ⟨g, off + j * 2, none⟩ = some (.string ss[j].1)) := fun j hj => by
    obtain ⟨g, off, e, hg, k0, -⟩ := hc j hj
    exact ⟨g, off, e, (HB.out.cell (p := ⟨g, off + j * 2, none⟩) hg).trans k0⟩
  clear hc
  by_cases hn : nm = ⟨#[]⟩
  · subst hn
    go_enter Tryz.func86, Tryz.ntmps86
    go_wp2
    clear hW0
    go_loopw [5] (fun i wr => ∃ j : Nat, j ≤ ss.length ∧ i = .int .i64 j ∧ W0 = wr) (fun i _ => ss.length - (intOf i).toNat)
    case atStart => exact ⟨0, Nat.zero_le _, rfl, rfl⟩
    case round =>
      obtain ⟨j, hj, rfl, rfl⟩ := hrel
      by_cases hlt : j < ss.length
      · have j0 : (0 : Int) ≤ (j : Int) := by omega
        have j1 : (j : Int) < (ss.length : Int) := by omega
        go_wp2
        go_roundw
        case rel => exact ⟨j + 1, by omega, by go_num, by first | trivial | rfl⟩
        case measure => simp [intOf]; omega
      · go_wp2
        go_ret
        exact ⟨_, rfl, .inl ⟨rfl, fun h => absurd rfl h⟩, HB.out⟩
  · have HN : Hid (nm.size ≠ 0) := fun e => hn (by
      obtain ⟨⟨l⟩⟩ := nm
      have : l = [] := List.length_eq_zero_iff.1 e
      subst this
      rfl)
    have hne : nm.toList.isEmpty = false := emp_false (Nat.pos_of_ne_zero HN.out)
    go_enter Tryz.func86, Tryz.ntmps86
    go_wp2
    clear hW0
    go_loopw [5] (fun i wr => ∃ j : Nat, j ≤ ss.length ∧ i = .int .i64 j ∧ Hid (∀ (q : Nat) (hq : q < ss.length), q < j → ¬ ss[q].1 = nm) ∧ W0 = wr) (fun i _ => ss.length - (intOf i).toNat)
    case atStart => exact ⟨0, Nat.zero_le _, rfl, fun _ _ h => absurd h (Nat.not_lt_zero _), rfl⟩
    case round =>
      obtain ⟨j, hj, rfl, HJ, rfl⟩ := hrel
      by_cases hlt : j < ss.length
      · have j0 : (0 : Int) ≤ (j : Int) := by omega
        have j1 : (j : Int) < (ss.length : Int) := by omega
        obtain ⟨g, off, rfl, k0⟩ := HC.out j hlt
        obtain ⟨t, ht⟩ : ∃ t, ss[j].1 = t := ⟨_, rfl⟩
        rw [ht] at k0
        by_cases he : t = nm
        · have HF : Hid (SlotIs ss nm (j : Int)) := .inr ⟨j, hlt, rfl, ht.trans he, HN.out, fun i hi => HJ.out i (Nat.lt_trans hi hlt) hi⟩
          subst he
          clear ht
          go_wp2
          go_ret
          exact ⟨_, rfl, HF.out, HB.out⟩
        · have hbf : (t.toList == nm.toList) = false := beq_false he
          have HNE : Hid (∀ (q : Nat) (hq : q < ss.length), q < j + 1 → ¬ ss[q].1 = nm) := fun q hq h => by
            by_cases e : q < j
            · exact HJ.out q hq e
            · have : q = j := by omega
              subst this
              rw [ht]
              exact he
          clear ht
          go_wp2
          go_roundw
          case rel => exact ⟨j + 1, by omega, by go_num, HNE.out, by first | trivial | rfl⟩
          case measure => simp [intOf]; omega
      · go_wp2
        go_ret
        exact ⟨_, rfl, .inl ⟨rfl, fun _ i hi => HJ.out i hi (by omega)⟩, HB.out⟩
end Go.Proofs.YtmjhgfkplolelaaGreat
/- spec.InodeOk by its contract. -/
namespace Go.Proofs.YtmjhgfkplolelaaGreat
open Go.RowKit Kit
/-- An inode of two pointers is right. -/
def okR (k l p q : Int) : Bool := decide ((k = 0 ∧ l = 0 ∧ p = 0 ∧ q = 0) ∨ ((k = 1 ∨ k = 2) ∧ 0 ≤ l ∧ l ≤ 200 ∧ 0 ≤ p ∧ p ≤ 16 ∧ 0 ≤ q ∧ q ≤ 16))
theorem okR_true {k l p q : Int} (h : (k = 0 ∧ l = 0 ∧ p = 0 ∧ q = 0) ∨ ((k = 1 ∨ k = 2) ∧ 0 ≤ l ∧ l ≤ 200 ∧ 0 ≤ p ∧ p ≤ 16 ∧ 0 ≤ q ∧ q ≤ 16)) : true = okR k l p q := by simp only [okR]; exact (decide_eq_true h).symm
theorem okR_false {k l p q : Int} (h : ¬ ((k = 0 ∧ l = 0 ∧ p = 0 ∧ q = 0) ∨ ((k = 1 ∨ k = 2) ∧ 0 ≤ l ∧ l ≤ 200 ∧ 0 ≤ p ∧ p ≤ 16 ∧ 0 ≤ q ∧ q ≤ 16))) : false = okR k l p q := by simp only [okR]; exact (decide_eq_false h).symm
theorem okR_z {k l p q : Int} (hk : k = 0) (hp : (p != 0) = true) : false = okR k l p q := okR_false (by simp at hp; omega)
theorem okR_zq {k l p q : Int} (hk : k = 0) (hp : (q != 0) = true) : false = okR k l p q := okR_false (by simp at hp; omega)
theorem okR_l {k l p q : Int} (hk : k = 0) (hp : (p != 0) = false) (hq : (q != 0) = false) : (l == 0) = okR k l p q := by
  simp at hp hq
  subst hk hp hq
  by_cases h : l = 0
  · rw [← okR_true (by omega)]; simp [h]
  · rw [← okR_false (by omega)]; simp [h]
theorem RInts.two {w : World} {v : Value} {p q : Int} (h : RInts w v [p, q]) : ∃ g off c, v = .slice (some ⟨g, off, none⟩) 2 c ∧ g < w.heap.size ∧ w.cell? ⟨g, off, none⟩ = some (.int .i64 p) ∧ w.cell? ⟨g, off + 1, none⟩ = some (.int .i64 q) := by
  obtain ⟨a, c, rfl, h⟩ := h
  obtain ⟨g, off, rfl, hg, h0⟩ := h 0 (by simp)
  obtain ⟨g1, off1, e, _, h1⟩ := h 1 (by simp)
  simp at e
  obtain ⟨rfl, rfl⟩ := e
  exact ⟨g, off, c, rfl, hg, h0, h1⟩

set_option maxRecDepth 100000 in
set_option maxHeartbeats 1600000 in
theorem specOk_two (k l p q : Int) (v : Value) (w : World) (hv : RInts w v [p, q]) :
    Calls Tryz.prog 48 #[.agg #[.int .i64 k, .int .i64 l, v]] w fun e w' => e = .returned (.bool (okR k l p q)) ∧ Below w.heap.size w w' := by
  obtain ⟨g, off, c, rfl, hg, c0, c1⟩ := RInts.two hv
  clear hv
  go_enter Tryz.func48, Tryz.ntmps48
  go_wp2
  · go_rounds 3
    all_goals (go_ret; refine ⟨ret_bool ?_, by go_grown⟩)
    all_goals first | (refine okR_true ?_; omega) | (refine okR_false ?_; omega) | exact okR_z ‹k = 0› ‹(p != 0) = true› | exact okR_zq ‹k = 0› ‹(q != 0) = true› | exact okR_l ‹k = 0› ‹(p != 0) = false› ‹(q != 0) = false›
  all_goals (go_ret; refine ⟨ret_bool ?_, by go_grown⟩; refine okR_false ?_; omega)

set_option maxRecDepth 100000 in
set_option maxHeartbeats 1600000 in
theorem specOk_other (k l : Int) (xs : List Int) (v : Value) (w : World) (hv : RInts w v xs) (hn : xs.length ≠ 2) :
    Calls Tryz.prog 48 #[.agg #[.int .i64 k, .int .i64 l, v]] w fun e w' => e = .returned (.bool false) ∧ Below w.heap.size w w' := by
  obtain ⟨a, c, rfl, -⟩ := hv
  generalize xs.length = n at *
  have h1 : ((n : Int) != 2) = true := by simp; omega
  go_enter Tryz.func48, Tryz.ntmps48
  go_wp2
  all_goals (go_ret; exact ⟨rfl, by go_grown⟩)
end Go.Proofs.YtmjhgfkplolelaaGreat
/- (impl.inodeRecord).ptrsRight and (impl.inodeRecord).right by their contracts. -/
namespace Go.Proofs.YtmjhgfkplolelaaGreat
open Go.RowKit Kit
theorem Tryz.u3 : Tryz.prog.underlying 3 = some (.int .i64) := by kernel_rfl
theorem eqArrD (d : Nat) (p q : Int) (w : World) : (Op.equalIn (d + 1 + 1) 231 (.agg #[.int .i64 p, .int .i64 q]) (.agg #[.int .i64 0, .int .i64 0])).run Tryz.prog w = .ok ((p == 0) && (q == 0)) w := by
  obtain ⟨i0, hi, hz0, hz1, hz2⟩ := info_parts Tryz.i3
  unfold Op.equalIn
  have hr : ∀ a b, (Op.equalIn (d + 1) 3 (.int .i64 a) (.int .i64 b)).run Tryz.prog w = .ok (a == b) w := fun a b => run_equalIn_int w d 3 .i64 .i64 a b Tryz.u3
  simp [run_underlying Tryz.u231, sizeOf, typeInfo, hi, hz1, part, go_sem, hr, Std.Legacy.Range.forIn_eq_forIn_range', List.range', List.forIn_cons]
  by_cases hp : p = 0 <;> by_cases hq : q = 0 <;> simp [hp, hq]
theorem eqArr (p q : Int) (w : World) : (Op.equalIn 9999 231 (.agg #[.int .i64 p, .int .i64 q]) (.agg #[.int .i64 0, .int .i64 0])).run Tryz.prog w = .ok ((p == 0) && (q == 0)) w := eqArrD 9997 p q w
/-- Both pointers are in their range. -/
def ptrsR (p q : Int) : Bool := decide (0 ≤ p ∧ p ≤ 16 ∧ 0 ≤ q ∧ q ≤ 16)
theorem ptrsR_true {p q : Int} (h : 0 ≤ p ∧ p ≤ 16 ∧ 0 ≤ q ∧ q ≤ 16) : true = ptrsR p q := by simp only [ptrsR]; exact (decide_eq_true h).symm
theorem ptrsR_false {p q : Int} (h : ¬ (0 ≤ p ∧ p ≤ 16 ∧ 0 ≤ q ∧ q ≤ 16)) : false = ptrsR p q := by simp only [ptrsR]; exact (decide_eq_false h).symm

set_option maxRecDepth 100000 in
set_option maxHeartbeats 1600000 in
theorem ptrs_any (k l p q : Int) (w : World) :
    Calls Tryz.prog 193 #[.agg #[.int .i64 k, .int .i64 l, .int .i64 p, .int .i64 q]] w fun e w' => e = .returned (.bool (ptrsR p q)) ∧ Below w.heap.size w w' := by
  have a0 := arr0 p q
  have a1 := arr1 p q
  go_enter Tryz.func193, Tryz.ntmps193
  go_wp2
  go_rounds 3
  all_goals (go_ret; refine ⟨ret_bool ?_, by go_grown⟩)
  all_goals first | (refine ptrsR_true ?_; omega) | (refine ptrsR_false ?_; omega) 

theorem okR_of_ptrs {k l p q : Int} (hk : k = 1 ∨ k = 2) (h0 : 0 ≤ l) (h1 : l ≤ 200) : ptrsR p q = okR k l p q := by
  by_cases h : 0 ≤ p ∧ p ≤ 16 ∧ 0 ≤ q ∧ q ≤ 16
  · rw [← ptrsR_true h, ← okR_true (by omega)]
  · rw [← ptrsR_false h, ← okR_false (by omega)]
set_option maxRecDepth 100000 in
set_option maxHeartbeats 1600000 in
theorem right_anyI (k l p q : Int) (w : World) :
    Calls Tryz.prog 174 #[.agg #[.int .i64 k, .int .i64 l, .int .i64 p, .int .i64 q]] w fun e w' => e = .returned (.bool (okR k l p q)) ∧ Below w.heap.size w w' := by
  have eA := eqArr p q
  by_cases h0 : k = 0
  · subst h0
    go_enter Tryz.func174, Tryz.ntmps174
    go_wp2
    all_goals (go_ret; refine ⟨ret_bool ?_, by go_grown⟩)
    all_goals first | (refine okR_true ?_; omega) | (refine okR_false ?_; omega)
  have k0 : (k == 0) = false := by simpa using h0
  by_cases h1 : k = 1
  · subst h1
    have HP := hide (okR_of_ptrs (k := 1) (l := l) (p := p) (q := q) (.inl rfl))
    clear eA k0 h0
    go_enter Tryz.func174, Tryz.ntmps174
    go_wp2_with (go_at_call 193; refine (ptrs_any _ _ _ _ _).mono ?_; rintro e w1 ⟨rfl, B1⟩)
    all_goals go_ret
    all_goals first | (refine ⟨ret_bool ?_, by go_grown⟩; refine okR_false ?_; omega) | (refine ⟨ret_bool (HP.out ‹_› ‹_›), ((Below.refl _ w).alloc (Nat.le_refl _) _).trans (B1.mono (by simp))⟩)
  have k1 : (k == 1) = false := by simpa using h1
  by_cases h2 : k = 2
  · subst h2
    have HP := hide (okR_of_ptrs (k := 2) (l := l) (p := p) (q := q) (.inr rfl))
    clear eA k0 h0 k1 h1
    go_enter Tryz.func174, Tryz.ntmps174
    go_wp2_with (go_at_call 193; refine (ptrs_any _ _ _ _ _).mono ?_; rintro e w1 ⟨rfl, B1⟩)
    all_goals go_ret
    all_goals first | (refine ⟨ret_bool ?_, by go_grown⟩; refine okR_false ?_; omega) | (refine ⟨ret_bool (HP.out ‹_› ‹_›), ((Below.refl _ w).alloc (Nat.le_refl _) _).trans (B1.mono (by simp))⟩)
  have k2 : (k == 2) = false := by simpa using h2
  have HP := hide (okR_false (k := k) (l := l) (p := p) (q := q) (by omega))
  clear eA h0 h1 h2
  go_enter Tryz.func174, Tryz.ntmps174
  go_wp2
  go_ret
  exact ⟨ret_bool HP.out, by go_grown⟩
end Go.Proofs.YtmjhgfkplolelaaGreat
/- impl.recordOf and impl.InodeOk by their contracts. -/
namespace Go.Proofs.YtmjhgfkplolelaaGreat
open Go.RowKit Kit

set_option maxRecDepth 100000 in
set_option maxHeartbeats 1600000 in
theorem recordOf_two (k l p q : Int) (v : Value) (w : World) (hv : RInts w v [p, q]) :
    Calls Tryz.prog 173 #[.agg #[.int .i64 k, .int .i64 l, v]] w fun e w' => e = .returned (.tuple #[.agg #[.int .i64 k, .int .i64 l, .int .i64 p, .int .i64 q], .bool true]) ∧ Below w.heap.size w w' := by
  obtain ⟨g, off, c, rfl, hg, c0, c1⟩ := RInts.two hv
  clear hv
  have hg1 : g < w.heap.size + 1 := by omega
  have hg2 : g < w.heap.size + 1 + 1 := by omega
  go_enter Tryz.func173, Tryz.ntmps173
  go_wp2
  go_rounds 3
  refine bodyPost_ret (v := .tuple #[.agg #[.int .i64 k, .int .i64 l, .int .i64 p, .int .i64 q], .bool true]) (by simp [results, go_sem]) rfl ⟨rfl, by go_grown⟩

set_option maxRecDepth 100000 in
set_option maxHeartbeats 1600000 in
theorem recordOf_other (k l : Int) (xs : List Int) (v : Value) (w : World) (hv : RInts w v xs) (hn : xs.length ≠ 2) :
    Calls Tryz.prog 173 #[.agg #[.int .i64 k, .int .i64 l, v]] w fun e w' => e = .returned (.tuple #[.agg #[.int .i64 0, .int .i64 0, .int .i64 0, .int .i64 0], .bool false]) ∧ Below w.heap.size w w' := by
  obtain ⟨a, c, rfl, -⟩ := hv
  generalize xs.length = n at *
  have h1 : ((n : Int) != 2) = true := by simp; omega
  go_enter Tryz.func173, Tryz.ntmps173
  go_wp2
  refine bodyPost_ret (v := .tuple #[.agg #[.int .i64 0, .int .i64 0, .int .i64 0, .int .i64 0], .bool false]) (by simp [results, go_sem]) rfl ⟨rfl, by go_grown⟩

set_option maxHeartbeats 1600000 in
theorem implOk_two (k l p q : Int) (v : Value) (w : World) (hv : RInts w v [p, q]) :
    Calls Tryz.prog 144 #[.agg #[.int .i64 k, .int .i64 l, v]] w fun e w' => e = .returned (.bool (okR k l p q)) ∧ Below w.heap.size w w' := by
  have HV := hide hv
  obtain ⟨g, off, c, rfl, -⟩ := RInts.two hv
  clear hv
  go_enter Tryz.func144, Tryz.ntmps144
  go_wp2_with fail
  refine (recordOf_two k l p q _ _ (HV.out.alloc _)).mono ?_
  rintro e w1 ⟨rfl, B1⟩
  have HB1 := hide B1
  clear B1
  go_wp2_with fail
  refine (right_anyI k l p q _).mono ?_
  rintro e w2 ⟨rfl, B2⟩
  have HB2 := hide B2
  clear B2
  go_wp2
  go_ret
  have h1 : Below w.heap.size w w1 := ((Below.refl _ w).alloc (Nat.le_refl _) _).trans (HB1.out.mono (by simp))
  exact ⟨rfl, (h1.alloc h1.size _).trans (HB2.out.mono (by have := h1.size; simp; omega))⟩

set_option maxHeartbeats 1600000 in
theorem implOk_other (k l : Int) (xs : List Int) (v : Value) (w : World) (hv : RInts w v xs) (hn : xs.length ≠ 2) :
    Calls Tryz.prog 144 #[.agg #[.int .i64 k, .int .i64 l, v]] w fun e w' => e = .returned (.bool false) ∧ Below w.heap.size w w' := by
  have HV := hide hv
  obtain ⟨a, c, rfl, -⟩ := hv
  go_enter Tryz.func144, Tryz.ntmps144
  go_wp2_with fail
  refine (recordOf_other k l xs _ _ (HV.out.alloc _) hn).mono ?_
  rintro e w1 ⟨rfl, B1⟩
  have HB1 := hide B1
  clear B1
  go_wp2
  go_ret
  have h1 : Below w.heap.size w w1 := ((Below.refl _ w).alloc (Nat.le_refl _) _).trans (HB1.out.mono (by simp))
  exact ⟨rfl, h1.alloc h1.size _⟩
end Go.Proofs.YtmjhgfkplolelaaGreat
/- spec.InodeText by its contract. -/
namespace Go.Proofs.YtmjhgfkplolelaaGreat
open Go.RowKit Kit
/-- Four bytes as a string. -/
def quadB (a b c d : Nat) : ByteArray := ⟨#[UInt8.ofNat a, UInt8.ofNat b, UInt8.ofNat c, UInt8.ofNat d]⟩
theorem quadB_size (a b c d : Nat) : (quadB a b c d).size = 4 := rfl
theorem Tryz.u9 : Tryz.prog.underlying 9 = some .string := by kernel_rfl
theorem Tryz.u5 : Tryz.prog.underlying 5 = some (.int .u8) := by kernel_rfl
theorem conv_quad (a b c d : Nat) (ha : a < 256) (hb : b < 256) (hc : c < 256) (hd : d < 256) (W : World) (B C : Nat)
    (h0 : W.cell? ⟨B, 0, none⟩ = some (.int .u8 a)) (h1 : W.cell? ⟨B, 1, none⟩ = some (.int .u8 b)) (h2 : W.cell? ⟨B, 2, none⟩ = some (.int .u8 c)) (h3 : W.cell? ⟨B, 3, none⟩ = some (.int .u8 d)) :
    (convert 226 9 (.slice (some ⟨B, 0, none⟩) 4 C)).run Tryz.prog W = .ok (.string (quadB a b c d)) W := by
  refine run_convert_bytes_back (P := Tryz.prog) W 226 9 5 ⟨B, 0, none⟩ C [UInt8.ofNat a, UInt8.ofNat b, UInt8.ofNat c, UInt8.ofNat d] Tryz.u226 Tryz.u5 Tryz.u9 ?_
  intro j hj
  simp at hj
  match j, hj with
  | 0, _ => simp [Addr.add, h0, UInt8.toNat_ofNat']; omega
  | 1, _ => simp [Addr.add, h1, UInt8.toNat_ofNat']; omega
  | 2, _ => simp [Addr.add, h2, UInt8.toNat_ofNat']; omega
  | 3, _ => simp [Addr.add, h3, UInt8.toNat_ofNat']; omega

end Go.Proofs.YtmjhgfkplolelaaGreat
/- impl.InodeText by its contract. -/
namespace Go.Proofs.YtmjhgfkplolelaaGreat
open Go.RowKit Kit

theorem conv_quad4 (a b c d : Nat) (ha : a < 256) (hb : b < 256) (hc : c < 256) (hd : d < 256) (W : World) (o1 o2 o3 : Obj) :
    (convert 226 9 (.slice (some ⟨W.heap.size, 0, none⟩) 4 4)).run Tryz.prog ((((W.alloc (.cells #[.int .u8 a, .int .u8 b, .int .u8 c, .int .u8 d] 5)).alloc o1).alloc o2).alloc o3) = .ok (.string (quadB a b c d)) ((((W.alloc (.cells #[.int .u8 a, .int .u8 b, .int .u8 c, .int .u8 d] 5)).alloc o1).alloc o2).alloc o3) := by
  have K : ((((W.alloc (.cells #[.int .u8 a, .int .u8 b, .int .u8 c, .int .u8 d] 5)).alloc o1).alloc o2).alloc o3).heap[W.heap.size]? = some (.cells #[.int .u8 a, .int .u8 b, .int .u8 c, .int .u8 d] 5 (0, 0)) :=
    (Below.heap_alloc _ _ _ (by simp; omega)).trans (heap_new3 W _ _ _)
  generalize ((((W.alloc (.cells #[.int .u8 a, .int .u8 b, .int .u8 c, .int .u8 d] 5)).alloc o1).alloc o2).alloc o3) = W' at *
  exact conv_quad a b c d ha hb hc hd W' _ _ (by simp [World.cell?, K]) (by simp [World.cell?, K]) (by simp [World.cell?, K]) (by simp [World.cell?, K])

end Go.Proofs.YtmjhgfkplolelaaGreat
/- An inode that came in: where it lies, and spec's and impl's InodeOk and InodeText at every list of pointers. -/
namespace Go.Proofs.YtmjhgfkplolelaaGreat.Kit
open Go.RowKit
/-- A variable of a type like an inode's lies in block b. -/
def AtT (T : TypeId) (w : World) (b : Nat) (k l : Int) (v : Value) : Prop := w.heap[b]? = some (.cells #[.int .i64 k, .int .i64 l, v] T (0, 0))
theorem AtT.lt {T : TypeId} {w : World} {b : Nat} {k l : Int} {v : Value} (h : AtT T w b k l v) : b < w.heap.size := (Array.getElem?_eq_some_iff.1 h).1
theorem AtT.new (T : TypeId) (w : World) (k l : Int) (v : Value) : AtT T (w.alloc (.cells #[.int .i64 k, .int .i64 l, v] T)) w.heap.size k l v := heap_new w _
theorem AtT.alloc {T : TypeId} {w : World} {b : Nat} {k l : Int} {v : Value} (h : AtT T w b k l v) (o : Obj) : AtT T (w.alloc o) b k l v := (Below.heap_alloc _ _ _ h.lt).trans h
theorem AtT.below {T : TypeId} {w w' : World} {b B : Nat} {k l : Int} {v : Value} (h : AtT T w b k l v) (hb : Below B w w') (hB : b < B) : AtT T w' b k l v := (hb.block b hB).trans h
theorem AtT.grown {T : TypeId} {w w' : World} {b : Nat} {k l : Int} {v : Value} {row : Option Nat} (h : AtT T w b k l v) (hg : w.grownBy w' row) (hr : row ≠ some b) : AtT T w' b k l v := (hg.block b h.lt (fun e => hr e.symm)).trans h
theorem AtT.cells {T : TypeId} {w : World} {b : Nat} {k l : Int} {v : Value} (h : AtT T w b k l v) :
    w.cell? ⟨b, 0, none⟩ = some (.int .i64 k) ∧ w.cell? ⟨b, 1, none⟩ = some (.int .i64 l) ∧ w.cell? ⟨b, 2, none⟩ = some v := by
  have h' : w.heap[b]? = some (.cells #[.int .i64 k, .int .i64 l, v] T (0, 0)) := h
  exact ⟨by simp [World.cell?, h'], by simp [World.cell?, h'], by simp [World.cell?, h']⟩
theorem RInts.drew {w : World} {v : Value} {xs : List Int} (h : RInts w v xs) : RInts w.drew v xs := h.below (Below.refl w.heap.size w).drew (Nat.le_refl _)
end Go.Proofs.YtmjhgfkplolelaaGreat.Kit
namespace Go.Proofs.YtmjhgfkplolelaaGreat
open Go.RowKit Kit
/-- An inode is right. -/
def okL (k l : Int) : List Int → Bool
  | [p, q] => okR k l p q
  | _ => false
theorem okL_other (k l : Int) (xs : List Int) (h : xs.length ≠ 2) : okL k l xs = false := by
  match xs, h with
  | [], _ => rfl
  | [_], _ => rfl
  | [_, _], h => exact absurd rfl h
  | _ :: _ :: _ :: _, _ => rfl
theorem two_or (xs : List Int) : (∃ p q, xs = [p, q]) ∨ xs.length ≠ 2 := by
  match xs with
  | [] => right; simp
  | [_] => right; simp
  | [p, q] => left; exact ⟨p, q, rfl⟩
  | _ :: _ :: _ :: _ => right; simp
theorem specOk_anyI (k l : Int) (xs : List Int) (v : Value) (w : World) (hv : RInts w v xs) :
    Calls Tryz.prog 48 #[.agg #[.int .i64 k, .int .i64 l, v]] w fun e w' => e = .returned (.bool (okL k l xs)) ∧ Below w.heap.size w w' := by
  rcases two_or xs with ⟨p, q, rfl⟩ | h
  · exact specOk_two k l p q v w hv
  · rw [okL_other k l xs h]; exact specOk_other k l xs v w hv h
theorem implOk_anyI (k l : Int) (xs : List Int) (v : Value) (w : World) (hv : RInts w v xs) :
    Calls Tryz.prog 144 #[.agg #[.int .i64 k, .int .i64 l, v]] w fun e w' => e = .returned (.bool (okL k l xs)) ∧ Below w.heap.size w w' := by
  rcases two_or xs with ⟨p, q, rfl⟩ | h
  · exact implOk_two k l p q v w hv
  · rw [okL_other k l xs h]; exact implOk_other k l xs v w hv h
/-- The bytes of an inode, nothing where it is not right. -/
def textL (k l : Int) (xs : List Int) : ByteArray := if okL k l xs then quadB k.toNat l.toNat (xs.getD 0 0).toNat (xs.getD 1 0).toNat else ⟨#[]⟩
theorem okR_bounds {k l p q : Int} (h : okR k l p q = true) : (0 ≤ k ∧ k ≤ 2) ∧ (0 ≤ l ∧ l ≤ 200) ∧ (0 ≤ p ∧ p ≤ 16) ∧ (0 ≤ q ∧ q ≤ 16) := by
  have h' := of_decide_eq_true h
  omega
end Go.Proofs.YtmjhgfkplolelaaGreat
/- spec.NameOk and impl.NameOk by their contracts, and the walk of laws.FnExactNameOk. -/
namespace Go.Proofs.YtmjhgfkplolelaaGreat.Kit
open Go.RowKit
/-- A byte of a name. -/
def chN (c : Nat) : Bool := decide ((97 ≤ c ∧ c ≤ 122) ∨ (48 ≤ c ∧ c ≤ 57))
/-- A name is right. -/
def nameOk (s : ByteArray) : Bool := decide ((1 ≤ s.size ∧ s.size ≤ 6) ∧ ∀ (j : Nat) (h : j < s.size), chN (s[j]).toNat = true)
theorem nameOk_len {s : ByteArray} (h : s.size < 1 ∨ 6 < s.size) : false = nameOk s := by
  unfold nameOk
  exact (decide_eq_false (by omega)).symm
theorem nameOk_bad {s : ByteArray} {j c : Nat} (h : j < s.size) (hc : (s[j]).toNat = c) (hb : ¬ ((97 ≤ c ∧ c ≤ 122) ∨ (48 ≤ c ∧ c ≤ 57))) : false = nameOk s := by
  unfold nameOk
  refine (decide_eq_false ?_).symm
  rintro ⟨_, h2⟩
  have := h2 j h
  rw [hc] at this
  exact hb (of_decide_eq_true this)
theorem nameOk_all {s : ByteArray} (h : 1 ≤ s.size ∧ s.size ≤ 6) (ha : ∀ (j : Nat) (h : j < s.size), chN (s[j]).toNat = true) : true = nameOk s := by
  unfold nameOk
  exact (decide_eq_true ⟨h, ha⟩).symm
theorem nameOk_size {s : ByteArray} (h : nameOk s = true) : 1 ≤ s.size ∧ s.size ≤ 6 := (of_decide_eq_true h).1
/-- The first j bytes are a name's. -/
def upTo (s : ByteArray) (j : Nat) : Prop := ∀ (i : Nat) (h : i < s.size), i < j → chN (s[i]).toNat = true
theorem upTo_zero (s : ByteArray) : upTo s 0 := fun _ _ h => absurd h (Nat.not_lt_zero _)
theorem upTo_next {s : ByteArray} {j c : Nat} (hu : upTo s j) (h : j < s.size) (hc : (s[j]).toNat = c) (hg : (97 ≤ c ∧ c ≤ 122) ∨ (48 ≤ c ∧ c ≤ 57)) : upTo s (j + 1) := fun i hi hlt => by
  by_cases he : i = j
  · subst he; rw [hc]; exact decide_eq_true hg
  · exact hu i hi (by omega)
theorem upTo_all {s : ByteArray} {j : Nat} (hu : upTo s j) (h : s.size ≤ j) : ∀ (j : Nat) (h : j < s.size), chN (s[j]).toNat = true := fun i hi => hu i hi (by omega)
theorem emp_true {s : ByteArray} (h : s.size = 0) : s.toList.isEmpty = true := by
  rw [List.isEmpty_iff, ByteArray.toList_eq, ← List.length_eq_zero_iff]
  exact h
theorem emp_false {s : ByteArray} (h : 0 < s.size) : s.toList.isEmpty = false := by
  rw [List.isEmpty_eq_false_iff, ByteArray.toList_eq]
  intro e
  have h2 : s.data.toList.length = s.size := rfl
  rw [e, List.length_nil] at h2
  omega
end Go.Proofs.YtmjhgfkplolelaaGreat.Kit
namespace Go.Proofs.YtmjhgfkplolelaaGreat
open Go.RowKit Kit
set_option maxRecDepth 100000 in
set_option maxHeartbeats 1600000 in
theorem specName_any (s : ByteArray) (w : World) (hs : s.size ≤ 1048576) :
    Calls Tryz.prog 84 #[.string s] w fun e w' => e = .returned (.bool (nameOk s)) ∧ Below w.heap.size w w' := by
  obtain ⟨r, hr⟩ : ∃ r, nameOk s = r := ⟨_, rfl⟩
  have HR := hide hr
  rw [hr]
  clear hr
  go_enter Tryz.func84, Tryz.ntmps84
  go_wp2
  go_loop [3] (fun i => ∃ j : Nat, j ≤ s.size ∧ i = .int .i64 j ∧ Hid (upTo s j)) (fun i => s.size - (intOf i).toNat)
  case atStart => exact ⟨0, Nat.zero_le _, rfl, upTo_zero s⟩
  case round =>
    obtain ⟨j, hj, rfl, HU⟩ := hrel
    by_cases hlt : j < s.size
    · obtain ⟨c, hc⟩ : ∃ c : Nat, (s[j]).toNat = c := ⟨_, rfl⟩
      have hc1 : c < 256 := by rw [← hc]; exact (s[j]).toNat_lt
      have HC := hide hc
      have j0 : (0 : Int) ≤ (j : Int) := by omega
      have j1 : (j : Int) < (s.size : Int) := by omega
      go_wp2
      all_goals first | (go_ret; refine ⟨ret_bool ?_, Below.refl _ _⟩; rw [← HR.out]; exact nameOk_bad hlt HC.out (by omega)) | skip
      all_goals go_round
      all_goals first | (simp [intOf]; omega) | exact ⟨j + 1, by omega, by go_num, upTo_next HU.out hlt HC.out (by omega)⟩
    · go_wp2_with (go_at_call 52; refine (l01In_any _ _ _ _).mono ?_; rintro e w1 ⟨rfl, rfl⟩)
      go_ret
      refine ⟨ret_bool ?_, Below.refl _ _⟩
      rw [← HR.out]
      by_cases h : 1 ≤ s.size ∧ s.size ≤ 6
      · rw [← nameOk_all h (upTo_all HU.out (by omega))]; simp [inB]; omega
      · rw [← nameOk_len (by omega)]; simp [inB]; omega

set_option maxRecDepth 100000 in
set_option maxHeartbeats 1600000 in
theorem implName_in (s : ByteArray) (w : World) (h0 : 1 ≤ s.size) (h6 : s.size ≤ 6) :
    Calls Tryz.prog 142 #[.string s] w fun e w' => e = .returned (.bool (nameOk s)) ∧ Below w.heap.size w w' := by
  obtain ⟨r, hr⟩ : ∃ r, nameOk s = r := ⟨_, rfl⟩
  have HR := hide hr
  rw [hr]
  clear hr
  have he := emp_false (s := s) (by omega)
  have h7 : decide (6 < (s.size : Int)) = false := by simp; omega
  have hbs := fun W => run_bytes_of_string (P := Tryz.prog) W 9 226 5 s Tryz.underlying9 Tryz.underlying226 Tryz.underlying5
  go_enter Tryz.func142, Tryz.ntmps142
  go_wp2
  go_loopw [4, 15] (fun _ i wr => ∃ j : Nat, j ≤ s.size ∧ i = .int .i64 j ∧ Hid (upTo s j) ∧ Below w.heap.size w wr ∧ Lies wr w.heap.size s) (fun _ i _ => s.size - (intOf i).toNat)
  case atStart => exact ⟨0, Nat.zero_le _, rfl, upTo_zero s, ((Below.refl _ w).alloc (Nat.le_refl _) _).drew, (lies_new w s _ _ _).of_heap rfl⟩
  case round =>
    obtain ⟨j, hj, rfl, HU, hb, hlies⟩ := hrel
    by_cases hlt : j < s.size
    · obtain ⟨c, hc⟩ : ∃ c : Nat, (s[j]).toNat = c := ⟨_, rfl⟩
      have hc1 : c < 256 := by rw [← hc]; exact (s[j]).toNat_lt
      have HC := hide hc
      have hcell := hlies.cell j hlt
      rw [hc] at hcell
      clear hc
      have HL := hide hlies
      have HB := hide hb
      clear hlies hb
      have j0 : (0 : Int) ≤ (j : Int) := by omega
      have j1 : (j : Int) < (s.size : Int) := by omega
      go_wp2
      all_goals first | (go_ret; refine ⟨ret_bool ?_, HB.out⟩; rw [← HR.out]; exact nameOk_bad hlt HC.out (by omega)) | skip
      all_goals go_roundw
      all_goals first | (simp [intOf]; omega) | exact ⟨j + 1, by omega, by go_num, upTo_next HU.out hlt HC.out (by omega), HB.out, HL.out⟩
    · have HB := hide hb
      clear hlies hb
      go_wp2
      go_ret
      refine ⟨ret_bool ?_, HB.out⟩
      rw [← HR.out]
      exact nameOk_all ⟨h0, h6⟩ (upTo_all HU.out (by omega))
theorem implName_out (s : ByteArray) (w : World) (h : s.size < 1 ∨ 6 < s.size) :
    Calls Tryz.prog 142 #[.string s] w fun e w' => e = .returned (.bool (nameOk s)) ∧ Below w.heap.size w w' := by
  rw [← nameOk_len h]
  by_cases h0 : s.size < 1
  · have he := emp_true (s := s) (by omega)
    go_enter Tryz.func142, Tryz.ntmps142
    go_wp2
    go_ret
    exact ⟨rfl, Below.refl _ _⟩
  · have he := emp_false (s := s) (by omega)
    have h6 : 6 < s.size := by omega
    go_enter Tryz.func142, Tryz.ntmps142
    go_wp2
    go_ret
    exact ⟨rfl, Below.refl _ _⟩
theorem implName_any (s : ByteArray) (w : World) :
    Calls Tryz.prog 142 #[.string s] w fun e w' => e = .returned (.bool (nameOk s)) ∧ Below w.heap.size w w' := by
  by_cases h : 1 ≤ s.size ∧ s.size ≤ 6
  · exact implName_in s w h.1 h.2
  · exact implName_out s w (by omega)
namespace fnExactNameOk
end fnExactNameOk
end Go.Proofs.YtmjhgfkplolelaaGreat
/- impl.placeOf, impl.SlotOf and spec.SlotOf by their contracts. -/
namespace Go.Proofs.YtmjhgfkplolelaaGreat.Kit
open Go.RowKit
/-- The place of a name, from k on. -/
def plF (name : ByteArray) : Nat → List Sl → Int
  | _, [] => -1
  | k, s :: r => if s.1 = name then (k : Int) else plF name (k + 1) r
/-- The place of a name. -/
def placeR (xs : List Sl) (name : ByteArray) : Int := if name.size = 0 then -1 else plF name 0 xs
theorem placeR_empty (xs : List Sl) {name : ByteArray} (h : name.size = 0) : placeR xs name = -1 := if_pos h
theorem placeR_start (xs : List Sl) {name : ByteArray} (h : name.size ≠ 0) : placeR xs name = plF name 0 (xs.drop 0) := if_neg h
theorem pl_hit {R : Int} {xs : List Sl} {name : ByteArray} {j : Nat} (h : j < xs.length) (hp : R = plF name j (xs.drop j)) (hq : xs[j].1 = name) : R = (j : Int) := by
  rw [hp, List.drop_eq_getElem_cons h, plF, if_pos hq]
theorem pl_next {R : Int} {xs : List Sl} {name : ByteArray} {j : Nat} (h : j < xs.length) (hp : R = plF name j (xs.drop j)) (hq : ¬ xs[j].1 = name) : R = plF name (j + 1) (xs.drop (j + 1)) := by
  rw [hp, List.drop_eq_getElem_cons h, plF, if_neg hq]
theorem pl_end {R : Int} {xs : List Sl} {name : ByteArray} {j : Nat} (h : xs.length ≤ j) (hp : R = plF name j (xs.drop j)) : R = -1 := by
  rw [hp, List.drop_of_length_le h, plF]
theorem beq_true {a b : ByteArray} (h : a = b) : (a.toList == b.toList) = true := by rw [h]; simp
theorem beq_false {a b : ByteArray} (h : ¬ a = b) : (a.toList == b.toList) = false := by
  rw [beq_eq_false_iff_ne, ByteArray.toList_eq, ByteArray.toList_eq]
  intro e
  exact h (ByteArray.ext (Array.toList_inj.1 e))
theorem ret_int {a b : Int} (h : a = b) : Ending.returned (.int .i64 a) = .returned (.int .i64 b) := by rw [h]
end Go.Proofs.YtmjhgfkplolelaaGreat.Kit
namespace Go.Proofs.YtmjhgfkplolelaaGreat
open Go.RowKit Kit
set_option maxRecDepth 100000 in
set_option maxHeartbeats 1600000 in
theorem placeOf_some (v : Value) (xs : List Sl) (name : ByteArray) (w : World) (hv : RSl w v xs) (hl : xs.length ≤ 1048576) (hn : name.size ≠ 0) :
    Calls Tryz.prog 195 #[v, .string name] w fun e w' => e = .returned (.int .i64 (placeR xs name)) ∧ Below w.heap.size w w' := by
  obtain ⟨a, c, rfl, -, hc⟩ := hv
  have HC := hide hc
  clear hc
  have HR := hide (placeR_start xs hn)
  obtain ⟨R, hR⟩ : ∃ R, placeR xs name = R := ⟨_, rfl⟩
  rw [hR] at HR ⊢
  clear hR
  have he := emp_false (s := name) (by omega)
  go_enter Tryz.func195, Tryz.ntmps195
  go_wp2
  go_loopw [5, 6, 11] (fun _ _ i wr => ∃ j : Nat, j ≤ xs.length ∧ i = .int .i64 j ∧ Hid (R = plF name j (xs.drop j)) ∧ Below w.heap.size w wr) (fun _ _ i _ => xs.length - (intOf i).toNat)
  case atStart => exact ⟨0, Nat.zero_le _, rfl, HR, Below.refl _ _⟩
  case round =>
    obtain ⟨j, hj, rfl, HP, hb⟩ := hrel
    by_cases hlt : j < xs.length
    · obtain ⟨g, off, rfl, hg, k1, k2⟩ := HC.out j hlt
      have q1 := (hb.cell (p := ⟨g, off + j * 2, none⟩) hg).trans k1
      have q2 := (hb.cell (p := ⟨g, off + j * 2 + 1, none⟩) hg).trans k2
      have hsz := hb.size
      have j0 : (0 : Int) ≤ (j : Int) := by omega
      have j1 : (j : Int) < (xs.length : Int) := by omega
      obtain ⟨t, ht⟩ : ∃ t, xs[j].1 = t := ⟨_, rfl⟩
      obtain ⟨z, hz⟩ : ∃ z, xs[j].2 = z := ⟨_, rfl⟩
      rw [ht] at q1
      rw [hz] at q2
      have HT := hide ht
      have HB := hide hb
      clear k1 k2 ht hz hb
      by_cases hq : t = name
      · have b1 := beq_true hq
        have HH := hide (pl_hit hlt HP.out (HT.out.trans hq))
        clear hq
        go_wp2
        go_ret
        exact ⟨ret_int HH.out.symm, HB.out.alloc hsz _⟩
      · have b1 := beq_false hq
        have HH := hide (pl_next hlt HP.out (by rw [HT.out]; exact hq))
        go_wp2
        go_roundw
        case rel => exact ⟨j + 1, by omega, by go_num, HH, HB.out.alloc hsz _⟩
        case measure => simp [intOf]; omega
    · have HH := hide (pl_end (by omega) HP.out)
      have HB := hide hb
      clear hb
      go_wp2
      go_ret
      exact ⟨ret_int HH.out.symm, HB.out⟩

theorem placeOf_none (v : Value) (xs : List Sl) (name : ByteArray) (w : World) (hv : RSl w v xs) (hn : name.size = 0) :
    Calls Tryz.prog 195 #[v, .string name] w fun e w' => e = .returned (.int .i64 (placeR xs name)) ∧ Below w.heap.size w w' := by
  obtain ⟨a, c, rfl, -⟩ := hv
  rw [placeR_empty xs hn]
  have he := emp_true (s := name) hn
  go_enter Tryz.func195, Tryz.ntmps195
  go_wp2
  go_ret
  exact ⟨rfl, Below.refl _ _⟩
theorem placeOf_any (v : Value) (xs : List Sl) (name : ByteArray) (w : World) (hv : RSl w v xs) (hl : xs.length ≤ 1048576) :
    Calls Tryz.prog 195 #[v, .string name] w fun e w' => e = .returned (.int .i64 (placeR xs name)) ∧ Below w.heap.size w w' := by
  by_cases hn : name.size = 0
  · exact placeOf_none v xs name w hv hn
  · exact placeOf_some v xs name w hv hl hn
end Go.Proofs.YtmjhgfkplolelaaGreat
/- (impl.Slot).right by its contract. -/
namespace Go.Proofs.YtmjhgfkplolelaaGreat.Kit
open Go.RowKit
/-- A slot is right by itself. -/
def slotOk (s : Sl) : Bool := decide ((s.1.size = 0 ∧ s.2 = 0) ∨ (nameOk s.1 = true ∧ 1 ≤ s.2 ∧ s.2 ≤ 8))
theorem slotOk_true {t : ByteArray} {z : Int} (h : (t.size = 0 ∧ z = 0) ∨ (nameOk t = true ∧ 1 ≤ z ∧ z ≤ 8)) : true = slotOk (t, z) := (decide_eq_true h).symm
theorem slotOk_false {t : ByteArray} {z : Int} (h : ¬ ((t.size = 0 ∧ z = 0) ∨ (nameOk t = true ∧ 1 ≤ z ∧ z ≤ 8))) : false = slotOk (t, z) := (decide_eq_false h).symm
theorem size_zero {t : ByteArray} (h : t.size = 0) : t = ⟨#[]⟩ := ByteArray.ext (Array.eq_empty_of_size_eq_zero h)
end Go.Proofs.YtmjhgfkplolelaaGreat.Kit
namespace Go.Proofs.YtmjhgfkplolelaaGreat
open Go.RowKit Kit
set_option maxHeartbeats 800000 in
theorem right_anyK (t : ByteArray) (z : Int) (w : World) :
    Calls Tryz.prog 194 #[.agg #[.string t, .int .i64 z]] w fun e w' => e = .returned (.bool (slotOk (t, z))) ∧ Below w.heap.size w w' := by
  obtain ⟨r, hr⟩ : ∃ r, slotOk (t, z) = r := ⟨_, rfl⟩
  have HR := hide hr
  rw [hr]
  clear hr
  by_cases h : t.size = 0 ∧ z = 0
  · obtain ⟨h0, rfl⟩ := h
    have := size_zero h0
    subst this
    have e1 : r = true := by rw [← HR.out]; rfl
    subst e1
    go_enter Tryz.func194, Tryz.ntmps194
    go_wp2
    go_ret
    exact ⟨rfl, by go_grown⟩
  · obtain ⟨n, hn⟩ : ∃ n, nameOk t = n := ⟨_, rfl⟩
    have C := hide (fun W => implName_any t W)
    rw [hn] at C
    have HN := hide hn
    have HH := hide h
    have he : ¬ (t.toList = [] ∧ z = 0) := fun e => h ⟨by have h2 : t.data.toList.length = t.size := rfl; rw [← h2, ← ByteArray.toList_eq, e.1]; rfl, e.2⟩
    have fin : ∀ b : Bool, (b = true ↔ (n = true ∧ 1 ≤ z ∧ z ≤ 8)) → b = r := by
      intro b hb
      rw [← HR.out]
      cases b with
      | true => exact slotOk_true (.inr ⟨by rw [HN.out]; exact (hb.1 rfl).1, (hb.1 rfl).2⟩)
      | false => exact slotOk_false (by rintro (h1 | h1); exact HH.out h1; rw [HN.out] at h1; have := hb.2 h1; cases this)
    have HF := hide fin
    have HE := hide he
    clear hn h fin he
    cases n with
    | true =>
      go_enter Tryz.func194, Tryz.ntmps194
      go_wp2_with (go_at_call 142; refine (C.out _).mono ?_; rintro e w1 ⟨rfl, hb1⟩; obtain ⟨q0, q1, q2⟩ := AtC.two ((AtC.new w 137 #[.string t, .int .i64 z]).over hb1))
      all_goals first | exact absurd ⟨‹t.toList = []›, ‹z = 0›⟩ HE.out | (go_ret; refine ⟨ret_bool (HF.out _ ?_), ((Below.refl _ w).alloc (Nat.le_refl _) _).trans (hb1.mono (by simp))⟩; simp; try omega)
    | false =>
      go_enter Tryz.func194, Tryz.ntmps194
      go_wp2_with (go_at_call 142; refine (C.out _).mono ?_; rintro e w1 ⟨rfl, hb1⟩)
      all_goals first | exact absurd ⟨‹t.toList = []›, ‹z = 0›⟩ HE.out | (go_ret; refine ⟨ret_bool (HF.out _ ?_), ((Below.refl _ w).alloc (Nat.le_refl _) _).trans (hb1.mono (by simp))⟩; simp; try omega)
end Go.Proofs.YtmjhgfkplolelaaGreat
/- impl.slotsRight and impl.BlockOk by their contracts. -/
namespace Go.Proofs.YtmjhgfkplolelaaGreat.Kit
open Go.RowKit
/-- What is asked of slots, one behind the other. -/
def okF : List Sl → List Sl → Bool
  | _, [] => true
  | ahead, s :: r => slotOk s && decide (placeR ahead s.1 < 0) && okF (ahead ++ [s]) r
/-- The slots of a directory are right. -/
def slotsOk (xs : List Sl) : Bool := decide (xs.length = 4) && okF [] xs
/-- A block is right. -/
def blockOk (d : Bool) (xs : List Sl) (t : ByteArray) : Bool := if d then decide (t.size = 0) && slotsOk xs else decide (xs.length = 0 ∧ t.size ≤ 16)
theorem ok_start {xs : List Sl} (h : xs.length = 4) : slotsOk xs = okF (xs.take 0) (xs.drop 0) := by simp [slotsOk, h]
theorem ok_other {xs : List Sl} (h : xs.length ≠ 4) : slotsOk xs = false := by simp [slotsOk, h]
theorem ok_next {R : Bool} {xs : List Sl} {j : Nat} (h : j < xs.length) (hp : R = okF (xs.take j) (xs.drop j)) (h1 : slotOk xs[j] = true) (h2 : placeR (xs.take j) xs[j].1 < 0) : R = okF (xs.take (j + 1)) (xs.drop (j + 1)) := by
  rw [hp, List.drop_eq_getElem_cons h, okF, h1, decide_eq_true h2, List.take_succ_eq_append_getElem h]
  rfl
theorem ok_bad {R : Bool} {xs : List Sl} {j : Nat} (h : j < xs.length) (hp : R = okF (xs.take j) (xs.drop j)) (h1 : slotOk xs[j] = false) : R = false := by
  rw [hp, List.drop_eq_getElem_cons h, okF, h1]
  rfl
theorem ok_twice {R : Bool} {xs : List Sl} {j : Nat} (h : j < xs.length) (hp : R = okF (xs.take j) (xs.drop j)) (h2 : ¬ placeR (xs.take j) xs[j].1 < 0) : R = false := by
  rw [hp, List.drop_eq_getElem_cons h, okF, decide_eq_false h2]
  simp
theorem ok_end {R : Bool} {xs : List Sl} {j : Nat} (h : xs.length ≤ j) (hp : R = okF (xs.take j) (xs.drop j)) : R = true := by
  rw [hp, List.drop_of_length_le h, okF]
theorem RSl.take {w : World} {a : Option Addr} {c : Nat} {xs : List Sl} (h : RSl w (.slice a xs.length c) xs) (j : Nat) (hj : j ≤ xs.length) : RSl w (.slice a j c) (xs.take j) := by
  obtain ⟨a', c', e, hcap, h⟩ := h
  simp only [Value.slice.injEq] at e
  obtain ⟨rfl, -, rfl⟩ := e
  have hl : (xs.take j).length = j := by simp; omega
  refine ⟨a, c, by rw [hl], by omega, fun i hi => ?_⟩
  rw [hl] at hi
  obtain ⟨g, off, e, hg, k1, k2⟩ := h i (by omega)
  exact ⟨g, off, e, hg, by simpa using k1, by simpa using k2⟩
end Go.Proofs.YtmjhgfkplolelaaGreat.Kit
namespace Go.Proofs.YtmjhgfkplolelaaGreat
open Go.RowKit Kit
set_option maxRecDepth 100000 in
set_option maxHeartbeats 1600000 in
theorem slotsRight_four (v : Value) (xs : List Sl) (w : World) (hv : RSl w v xs) (hl : xs.length = 4) :
    Calls Tryz.prog 175 #[v] w fun e w' => e = .returned (.bool (slotsOk xs)) ∧ Below w.heap.size w w' := by
  have HV := hide hv
  obtain ⟨a, c, rfl, hcap, hc⟩ := hv
  have HC := hide hc
  have HL := hide hl
  clear hc
  have HR := hide (ok_start hl)
  obtain ⟨R, hR⟩ : ∃ R, slotsOk xs = R := ⟨_, rfl⟩
  rw [hR] at HR ⊢
  rw [hl] at HV hcap ⊢
  clear hR hl
  go_enter Tryz.func175, Tryz.ntmps175
  go_wp2
  go_loopw [3, 4, 10] (fun _ _ i wr => ∃ j : Nat, j ≤ 4 ∧ i = .int .i64 j ∧ Hid (R = okF (xs.take j) (xs.drop j)) ∧ Below w.heap.size w wr) (fun _ _ i _ => 4 - (intOf i).toNat)
  case atStart => exact ⟨0, Nat.zero_le _, rfl, HR, Below.refl _ _⟩
  case round =>
    obtain ⟨j, hj, rfl, HP, hb⟩ := hrel
    by_cases hlt : j < 4
    · have hlx : j < xs.length := by rw [HL.out]; exact hlt
      obtain ⟨g, off, rfl, hg, k1, k2⟩ := HC.out j hlx
      have q1 := (hb.cell (p := ⟨g, off + j * 2, none⟩) hg).trans k1
      have q2 := (hb.cell (p := ⟨g, off + j * 2 + 1, none⟩) hg).trans k2
      have hsz := hb.size
      have j0 : (0 : Int) ≤ (j : Int) := by omega
      have j1 : (j : Int) < 4 := by omega
      have jc : (j : Int) ≤ (c : Int) := by omega
      have HTK := hide ((show RSl w (.slice (some ⟨g, off, none⟩) xs.length c) xs by rw [HL.out]; exact HV.out).take j (by omega))
      have C1 := hide (fun W => right_anyK xs[j].1 xs[j].2 W)
      have C2 := hide (fun W h => placeOf_any (.slice (some ⟨g, off, none⟩) j c) (xs.take j) xs[j].1 W h (by simp; have := HL.out; omega))
      have HBAD := hide (ok_bad hlx HP.out)
      have HTW := hide (ok_twice hlx HP.out)
      have HNX := hide (ok_next hlx HP.out)
      obtain ⟨t, ht⟩ : ∃ t, xs[j].1 = t := ⟨_, rfl⟩
      obtain ⟨z, hz⟩ : ∃ z, xs[j].2 = z := ⟨_, rfl⟩
      obtain ⟨r1, hr1⟩ : ∃ r, slotOk xs[j] = r := ⟨_, rfl⟩
      obtain ⟨r2, hr2⟩ : ∃ r, placeR (xs.take j) xs[j].1 = r := ⟨_, rfl⟩
      have e1 : (xs[j].1, xs[j].2) = xs[j] := rfl
      rw [e1, hr1] at C1
      rw [hr2] at C2 HTW HNX
      rw [hr1] at HBAD HNX
      rw [ht] at q1 C1 C2
      rw [hz] at q2 C1
      have HB := hide hb
      clear k1 k2 ht hz hr1 hr2 e1 hb HP hlx
      have HS : Hid (∀ w', Below (wr.heap.size + 1) (wr.alloc (.cells #[.string t, .int .i64 z] 137)) w' → w'.cell? ⟨wr.heap.size, 0, none⟩ = some (.string t) ∧ w'.cell? ⟨wr.heap.size, 1, none⟩ = some (.int .i64 z)) := fun w' hb => by
        obtain ⟨e0, e1, _⟩ := ((AtC.new wr 137 #[.string t, .int .i64 z]).below hb (by simp)).two
        exact ⟨e0, e1⟩
      have HBW := hide (HB.out.alloc hsz (.cells #[.string t, .int .i64 z] 137))
      cases r1 with
      | false =>
        go_wp2_with fail
        first | (go_region_with (go_at_call 194; refine (C1.out _).mono ?_; rintro e w6 ⟨rfl, B6⟩)) | fail
        all_goals have HBB := hide (HBW.out.trans ((of_drew B6).mono (by simp; omega)))
        all_goals have HQ := hide (HBAD.out trivial)
        all_goals clear B6
        all_goals go_wp2
        all_goals go_ret
        all_goals exact ⟨ret_bool HQ.out.symm, HBB.out⟩
      | true =>
        go_wp2_with fail
        go_region_held3 (fun w' => w'.cell? ⟨wr.heap.size, 0, none⟩ = some (.string t) ∧ w'.cell? ⟨wr.heap.size, 1, none⟩ = some (.int .i64 z)) (first | exact HS.out _ (Below.refl _ _).drew | exact HS.out _ (by simpa using of_drew B6) | exact HS.out _ (by simpa using ((of_drew B6).trans (B7.mono (of_drew B6).size)))) (first | (go_at_call 194; refine (C1.out _).mono ?_; rintro e w6 ⟨rfl, B6⟩) | (go_at_call 195; refine (C2.out _ (HTK.out.below (HBW.out.trans ((of_drew B6).mono (by simp; omega))) (Nat.le_refl _))).mono ?_; rintro e w7 ⟨rfl, B7⟩))
        have HBB := hide (HBW.out.trans (((of_drew B6).trans (B7.mono (of_drew B6).size)).mono (by simp; omega)))
        clear B6 B7
        by_cases hr : 0 ≤ r2
        · have HQ := hide (HTW.out hr)
          go_wp2
          go_ret
          exact ⟨ret_bool HQ.out.symm, HBB.out⟩
        · have HQ := hide (HNX.out trivial (by omega))
          go_wp2
          go_roundw
          case rel => exact ⟨j + 1, by omega, by go_num, HQ, HBB.out⟩
          case measure => simp [intOf]; omega
    · have HH := hide (ok_end (by rw [HL.out]; omega) HP.out)
      have HB := hide hb
      clear hb
      go_wp2
      go_ret
      exact ⟨ret_bool HH.out.symm, HB.out⟩
end Go.Proofs.YtmjhgfkplolelaaGreat
/- impl.BlockOk and spec.BlockOk by their contracts. -/
namespace Go.Proofs.YtmjhgfkplolelaaGreat.Kit
open Go.RowKit
theorem blockOk_dir (xs : List Sl) (t : ByteArray) (h : t.size = 0) : blockOk true xs t = slotsOk xs := by simp [blockOk, h]
theorem blockOk_dirt (xs : List Sl) (t : ByteArray) (h : t.size ≠ 0) : blockOk true xs t = false := by simp [blockOk, h]
theorem blockOk_text (xs : List Sl) (t : ByteArray) : blockOk false xs t = decide (xs.length = 0 ∧ t.size ≤ 16) := by simp [blockOk]
theorem take_at {xs : List Sl} {i j : Nat} (h : i < (xs.take j).length) : (xs.take j)[i] = xs[i]'(by simp at h; omega) := by simp
theorem pl_hit' {R : Int} {xs : List Sl} {name : ByteArray} {j k : Nat} (h : k < j) (hx : j < xs.length) (hp : R = plF name k ((xs.take j).drop k)) (hq : (xs[k]'(by omega)).1 = name) : R = (k : Int) :=
  pl_hit (by simp; omega) hp (by rw [take_at]; exact hq)
theorem pl_next' {R : Int} {xs : List Sl} {name : ByteArray} {j k : Nat} (h : k < j) (hx : j < xs.length) (hp : R = plF name k ((xs.take j).drop k)) (hq : ¬ (xs[k]'(by omega)).1 = name) : R = plF name (k + 1) ((xs.take j).drop (k + 1)) :=
  pl_next (by simp; omega) hp (by rw [take_at]; exact hq)
theorem pl_end' {R : Int} {xs : List Sl} {name : ByteArray} {j k : Nat} (h : j ≤ k) (hp : R = plF name k ((xs.take j).drop k)) : R = -1 :=
  pl_end (by simp; omega) hp
end Go.Proofs.YtmjhgfkplolelaaGreat.Kit
namespace Go.Proofs.YtmjhgfkplolelaaGreat
open Go.RowKit Kit
theorem slotsRight_any (v : Value) (xs : List Sl) (w : World) (hv : RSl w v xs) :
    Calls Tryz.prog 175 #[v] w fun e w' => e = .returned (.bool (slotsOk xs)) ∧ Below w.heap.size w w' := by
  by_cases hl : xs.length = 4
  · exact slotsRight_four v xs w hv hl
  · rw [ok_other hl]
    obtain ⟨a, c, rfl, -⟩ := hv
    generalize xs.length = n at *
    have h1 : ((n : Int) != 4) = true := by simp; omega
    go_enter Tryz.func175, Tryz.ntmps175
    go_wp2
    go_ret
    exact ⟨rfl, Below.refl _ _⟩
theorem implOk_anyK (d : Bool) (v : Value) (t : ByteArray) (xs : List Sl) (w : World) (hv : RSl w v xs) :
    Calls Tryz.prog 145 #[.agg #[.bool d, v, .string t]] w fun e w' => e = .returned (.bool (blockOk d xs t)) ∧ Below w.heap.size w w' := by
  cases d with
  | true =>
    by_cases h : t.size = 0
    · rw [blockOk_dir xs t h]
      have he := emp_true h
      have HV := hide hv
      have C := hide (fun W h => slotsRight_any v xs W h)
      obtain ⟨a, c, rfl, -⟩ := hv
      obtain ⟨R, hR⟩ : ∃ R, slotsOk xs = R := ⟨_, rfl⟩
      rw [hR] at C ⊢
      clear hR h
      go_enter Tryz.func145, Tryz.ntmps145
      go_wp2_with (go_at_call 175; refine (C.out _ (HV.out.alloc _)).mono ?_; rintro e w1 ⟨rfl, hb1⟩)
      go_ret
      exact ⟨rfl, ((Below.refl _ w).alloc (Nat.le_refl _) _).trans (hb1.mono (by simp))⟩
    · rw [blockOk_dirt xs t h]
      have he := emp_false (s := t) (by omega)
      obtain ⟨a, c, rfl, -⟩ := hv
      go_enter Tryz.func145, Tryz.ntmps145
      go_wp2
      go_ret
      exact ⟨rfl, by go_grown⟩
  | false =>
    rw [blockOk_text]
    obtain ⟨a, c, rfl, -⟩ := hv
    generalize xs.length = n at *
    by_cases h : n = 0
    · subst h
      go_enter Tryz.func145, Tryz.ntmps145
      go_wp2
      go_ret
      exact ⟨ret_bool (by simp; omega), by go_grown⟩
    · have h1 : ((n : Int) == 0) = false := by simp; omega
      go_enter Tryz.func145, Tryz.ntmps145
      go_wp2
      go_ret
      exact ⟨ret_bool (by simp [h]), by go_grown⟩
theorem specOk_plain (d : Bool) (v : Value) (t : ByteArray) (xs : List Sl) (w : World) (hv : RSl w v xs) (h : d = false ∨ xs.length ≠ 4 ∨ t.size ≠ 0) :
    Calls Tryz.prog 49 #[.agg #[.bool d, v, .string t]] w fun e w' => e = .returned (.bool (blockOk d xs t)) ∧ Below w.heap.size w w' := by
  cases d with
  | false =>
    rw [blockOk_text]
    obtain ⟨a, c, rfl, -⟩ := hv
    generalize xs.length = n at *
    by_cases h : n = 0
    · subst h
      go_enter Tryz.func49, Tryz.ntmps49
      go_wp2
      go_ret
      exact ⟨ret_bool (by simp; omega), by go_grown⟩
    · have h1 : ((n : Int) == 0) = false := by simp; omega
      go_enter Tryz.func49, Tryz.ntmps49
      go_wp2
      go_ret
      exact ⟨ret_bool (by simp), by go_grown⟩
  | true =>
    have e1 : blockOk true xs t = false := by
      by_cases h2 : t.size = 0
      · rw [blockOk_dir xs t h2]; exact ok_other (by simpa [h2] using h)
      · exact blockOk_dirt xs t h2
    rw [e1]
    obtain ⟨a, c, rfl, -⟩ := hv
    generalize xs.length = n at *
    by_cases h4 : n = 4
    · subst h4
      have he := emp_false (s := t) (by rcases h with h | h | h; cases h; exact absurd rfl h; omega)
      go_enter Tryz.func49, Tryz.ntmps49
      go_wp2
      go_ret
      exact ⟨rfl, by go_grown⟩
    · have h1 : ((n : Int) != 4) = true := by simp; omega
      go_enter Tryz.func49, Tryz.ntmps49
      go_wp2
      go_ret
      exact ⟨rfl, by go_grown⟩
end Go.Proofs.YtmjhgfkplolelaaGreat
/- spec.BlockOk at four slots by its contract. -/
namespace Go.Proofs.YtmjhgfkplolelaaGreat
open Go.RowKit Kit
set_option maxRecDepth 100000 in
set_option maxHeartbeats 3200000 in
theorem specOk_four (v : Value) (t0 : ByteArray) (xs : List Sl) (w : World) (hv : RSl w v xs) (hl : xs.length = 4) (ht0 : t0.size = 0) (hbig : ∀ (j : Nat) (h : j < xs.length), xs[j].1.size ≤ 1048576) :
    Calls Tryz.prog 49 #[.agg #[.bool true, v, .string t0]] w fun e w' => e = .returned (.bool (slotsOk xs)) ∧ Below w.heap.size w w' := by
  have HV := hide hv
  have HG := hide hbig
  obtain ⟨a, c, rfl, hcap, hc⟩ := hv
  have HC := hide hc
  have HL := hide hl
  clear hc hbig
  have HR := hide (ok_start hl)
  obtain ⟨R, hR⟩ : ∃ R, slotsOk xs = R := ⟨_, rfl⟩
  rw [hR] at HR ⊢
  rw [hl] at HV hcap ⊢
  have he0 := emp_true ht0
  clear hR hl ht0
  go_enter Tryz.func49, Tryz.ntmps49
  go_wp2
  go_loopw [3, 4, 5] (fun i _ _ wr => ∃ j : Nat, j ≤ 4 ∧ i = .int .i64 j ∧ Hid (R = okF (xs.take j) (xs.drop j)) ∧ Below w.heap.size w wr ∧ AtC wr w.heap.size 101 #[.bool true, .slice a 4 c, .string t0]) (fun i _ _ _ => 4 - (intOf i).toNat)
  case atStart => exact ⟨0, Nat.zero_le _, rfl, HR, (Below.refl _ w).alloc (Nat.le_refl _) _, AtC.new w 101 _⟩
  case round =>
    obtain ⟨j, hj, rfl, HP, hb, hat⟩ := hrel
    obtain ⟨b0, b1, b2, hbl⟩ := hat.three
    by_cases hlt : j < 4
    · have hlx : j < xs.length := by rw [HL.out]; exact hlt
      obtain ⟨g, off, rfl, hg, k1, k2⟩ := HC.out j hlx
      have q1 := (hb.cell (p := ⟨g, off + j * 2, none⟩) hg).trans k1
      have q2 := (hb.cell (p := ⟨g, off + j * 2 + 1, none⟩) hg).trans k2
      have hsz := hb.size
      have j0 : (0 : Int) ≤ (j : Int) := by omega
      have j1 : (j : Int) < 4 := by omega
      have C1 := hide (fun W => specName_any xs[j].1 W (HG.out j hlx))
      have HBAD := hide (ok_bad hlx HP.out)
      have HTW := hide (ok_twice hlx HP.out)
      have HNX := hide (ok_next hlx HP.out)
      obtain ⟨t, ht⟩ : ∃ t, xs[j].1 = t := ⟨_, rfl⟩
      obtain ⟨z, hz⟩ : ∃ z, xs[j].2 = z := ⟨_, rfl⟩
      have e1 : xs[j] = (t, z) := by rw [← ht, ← hz]
      rw [e1] at HBAD HNX HTW
      rw [ht] at q1 C1
      rw [hz] at q2
      have HAT := hide hat
      have HB := hide hb
      clear k1 k2 ht hz e1 hb HP hlx hat
      by_cases hA : t.size = 0 ∧ z = 0
      · obtain ⟨hA, rfl⟩ := hA
        have he := emp_true hA
        have HQ := hide (HNX.out (slotOk_true (.inl ⟨hA, rfl⟩)).symm (by rw [placeR_empty _ hA]; decide))
        clear hA
        go_wp2
        go_roundw
        case rel => exact ⟨j + 1, by omega, by go_num, HQ, HB.out.alloc hsz _, HAT.out.alloc _⟩
        case measure => simp [intOf]; omega
      · have HA := hide hA
        obtain ⟨n, hn⟩ : ∃ n, nameOk t = n := ⟨_, rfl⟩
        rw [hn] at C1
        have HN := hide hn
        have HE : Hid (∀ (P : Prop) [Decidable P], True) := fun _ => trivial
        have hAN := HAT.out.alloc (.cells #[.string t, .int .i64 z] 137)
        have hBW := HB.out.alloc hsz (.cells #[.string t, .int .i64 z] 137)
        have hSW := AtC.new wr 137 #[.string t, .int .i64 z]
        have HAN := hide hAN
        have HBW := hide hBW
        have HSW := hide hSW
        clear hn hAN hBW hSW HE
        by_cases hG : n = true ∧ 1 ≤ z ∧ z ≤ 8
        · obtain ⟨rfl, z1, z8⟩ := hG
          have hs1 : 1 ≤ t.size := (nameOk_size HN.out).1
          have he := emp_false (s := t) (by omega)
          have zz : (z == 0) = false := by simp; omega
          have hin : inB z 1 8 = true := by simp [inB, z1, z8]
          have HSO := hide (slotOk_true (t := t) (z := z) (.inr ⟨HN.out, z1, z8⟩)).symm
          have HNX2 := hide (HNX.out HSO.out)
          have HPS := hide (placeR_start (xs.take j) (name := t) (by omega))
          obtain ⟨r2, hr2⟩ : ∃ r, placeR (xs.take j) t = r := ⟨_, rfl⟩
          simp only [hr2] at HNX2 HTW HPS
          clear hr2 hA HNX HBAD
          go_wp2_with (first | (go_at_call 84; refine (C1.out _).mono ?_; rintro e w1 ⟨rfl, B1⟩; obtain ⟨s0, s1, sl⟩ := (HSW.out.over B1).two; obtain ⟨d0, d1, d2, dl⟩ := (HAN.out.over B1).three) | (go_at_call 52; refine (l01In_any _ _ _ _).mono ?_; rintro e w1 ⟨rfl, rfl⟩))
          have hB1 : Below w.heap.size w w1 := HBW.out.trans (B1.mono (by simp; omega))
          have HB1 := hide hB1
          have hA1 := HAN.out.over B1
          have HA1 := hide hA1
          clear hB1 hA1 B1 b0 b1 b2
          go_loopw [5] (fun i wz => ∃ k : Nat, k ≤ j ∧ i = .int .i64 k ∧ Hid (r2 = plF t k ((xs.take j).drop k)) ∧ ∃ q, wz = w1.drewN q) (fun i _ => j - (intOf i).toNat)
          case atStart => exact ⟨0, Nat.zero_le _, rfl, HPS, 0, rfl⟩
          case round =>
            obtain ⟨k, hk, rfl, HK, q, rfl⟩ := hrel
            by_cases hkj : k < j
            · have hkx : k < xs.length := by rw [HL.out]; omega
              obtain ⟨g', off', e', hg', m1, m2⟩ := HC.out k hkx
              simp only [Option.some.injEq, Addr.mk.injEq] at e'
              obtain ⟨rfl, rfl, -⟩ := e'
              have n1 := (HB1.out.cell (p := ⟨g, off + k * 2, none⟩) hg).trans m1
              have hjx : j < xs.length := by rw [HL.out]; exact hlt
              have HIT := hide (pl_hit' hkj hjx HK.out)
              have NXT := hide (pl_next' hkj hjx HK.out)
              obtain ⟨t2, ht2⟩ : ∃ t, xs[k].1 = t := ⟨_, rfl⟩
              rw [ht2] at n1 HIT NXT
              clear m1 m2 ht2 hjx hkx q1 q2
              have k0 : (0 : Int) ≤ (k : Int) := by omega
              have k1 : (k : Int) < 4 := by omega
              by_cases hq : t2 = t
              · have c1 := beq_true hq
                have HQ := hide (HTW.out (by have := HIT.out hq; omega))
                clear hq
                go_wp2
                go_quiet (fail)
                go_wp2
                go_ret
                exact ⟨ret_bool HQ.out.symm, below_drewN (below_drewN HB1.out _) _⟩
              · have c1 := beq_false hq
                have HQ := hide (NXT.out hq)
                clear hq
                go_wp2
                go_quiet (fail)
                go_wp2
                go_roundw
                case rel => exact ⟨k + 1, by omega, by go_num, HQ, _, rfl⟩
                case measure => simp [intOf]; omega
            · have HQ := hide (HNX2.out (by have := pl_end' (by omega) HK.out; omega))
              clear q1 q2
              go_wp2
              go_roundw
              case rel => exact ⟨j + 1, by omega, by go_num, HQ, below_drewN HB1.out _, HA1.out⟩
              case measure => simp [intOf]; omega
        · have HQ := hide (HBAD.out (slotOk_false (t := t) (z := z) (by rintro (h | h); exact HA.out h; exact hG ⟨by rw [← HN.out]; exact h.1, h.2⟩)).symm)
          have hE : (t.size = 0 ∧ (z == 0) = false) ∨ 0 < t.size := by
            by_cases h : t.size = 0
            · left; exact ⟨h, by simp; intro hz; exact HA.out ⟨h, hz⟩⟩
            · right; omega
          have hin : n = true → inB z 1 8 = false := fun h => by simp [inB]; intro h1; have := hG; simp [h] at this; omega
          have HI := hide hin
          have HEE := hide hE
          clear hin hE hA hG HBAD HNX HTW
          cases n with
          | false =>
            rcases HEE.out with ⟨h0, hz⟩ | h0
            · have he := emp_true h0
              clear h0
              go_wp2_with (first | (go_at_call 84; refine (C1.out _).mono ?_; rintro e w1 ⟨rfl, B1⟩))
              go_ret
              exact ⟨ret_bool HQ.out.symm, HBW.out.trans (B1.mono (by simp; omega))⟩
            · have he := emp_false h0
              clear h0
              go_wp2_with (first | (go_at_call 84; refine (C1.out _).mono ?_; rintro e w1 ⟨rfl, B1⟩))
              go_ret
              exact ⟨ret_bool HQ.out.symm, HBW.out.trans (B1.mono (by simp; omega))⟩
          | true =>
            have hin := HI.out rfl
            have hs1 : 1 ≤ t.size := (nameOk_size HN.out).1
            have he := emp_false (s := t) (by omega)
            go_wp2_with (first | (go_at_call 84; refine (C1.out _).mono ?_; rintro e w1 ⟨rfl, B1⟩; obtain ⟨s0, s1, sl⟩ := (HSW.out.over B1).two) | (go_at_call 52; refine (l01In_any _ _ _ _).mono ?_; rintro e w1 ⟨rfl, rfl⟩))
            go_ret
            exact ⟨ret_bool HQ.out.symm, HBW.out.trans (B1.mono (by simp; omega))⟩
    · have HH := hide (ok_end (by rw [HL.out]; omega) HP.out)
      have HB := hide hb
      clear hb hat
      go_wp2
      go_ret
      exact ⟨ret_bool HH.out.symm, HB.out⟩
theorem specOk_anyK (d : Bool) (v : Value) (t : ByteArray) (xs : List Sl) (w : World) (hv : RSl w v xs) (hbig : ∀ (j : Nat) (h : j < xs.length), xs[j].1.size ≤ 1048576) :
    Calls Tryz.prog 49 #[.agg #[.bool d, v, .string t]] w fun e w' => e = .returned (.bool (blockOk d xs t)) ∧ Below w.heap.size w w' := by
  by_cases h : d = false ∨ xs.length ≠ 4 ∨ t.size ≠ 0
  · exact specOk_plain d v t xs w hv h
  · simp only [not_or, Bool.not_eq_false, Decidable.not_not, ne_eq] at h
    obtain ⟨rfl, h4, h0⟩ := h
    rw [blockOk_dir xs t h0]
    exact specOk_four v t xs w hv h4 h0 hbig
end Go.Proofs.YtmjhgfkplolelaaGreat
/- impl.inodesRight, impl.blocksRight, impl.DiskOk and spec.DiskOk by their contracts. -/
namespace Go.Proofs.YtmjhgfkplolelaaGreat.Kit
open Go.RowKit
theorem all_no {α : Type} {f : α → Bool} {l : List α} {j : Nat} (h : j < l.length) (hf : f l[j] = false) : l.all f = false := by
  rw [List.all_eq_false]
  exact ⟨l[j], List.getElem_mem h, by simp [hf]⟩
theorem all_yes {α : Type} {f : α → Bool} {l : List α} (h : ∀ (j : Nat) (h : j < l.length), f l[j] = true) : l.all f = true := by
  rw [List.all_eq_true]
  intro x hx
  obtain ⟨j, hj, rfl⟩ := List.getElem_of_mem hx
  exact h j hj
end Go.Proofs.YtmjhgfkplolelaaGreat.Kit
namespace Go.Proofs.YtmjhgfkplolelaaGreat
open Go.RowKit Kit
/-- Whether an inode is right; whether all are. -/
def inoOk (x : Ino) : Bool := okL x.1 x.2.1 x.2.2
def inosOk (l : List Ino) : Bool := l.all inoOk
/-- Whether a block is right; whether all are. -/
def blkOk (b : Blk) : Bool := blockOk b.1 b.2.1 b.2.2
def blksOk (l : List Blk) : Bool := l.all blkOk
/-- Whether a disk is right. -/
def diskOk (xs ys : List Bool) (is : List Ino) (bs : List Blk) : Bool := okB xs.length ys.length && (inosOk is && decide (is.length = 8)) && (blksOk bs && decide (bs.length = 16))
set_option maxRecDepth 100000 in
set_option maxHeartbeats 1600000 in
theorem inosRight_any (v : Value) (l : List Ino) (w : World) (hv : R3 KI w v l) (hl : l.length ≤ 1048576) :
    Calls Tryz.prog 95 #[v] w fun e w' => e = .returned (.bool (inosOk l && decide (l.length = 8))) ∧ Below w.heap.size w w' := by
  obtain ⟨a1, c1, rfl, -, hv'⟩ := hv.ino
  have HA := hide hv'
  clear hv hv'
  go_enter Tryz.func95, Tryz.ntmps95
  go_wp2
  go_loopw [7] (fun i wr => ∃ j : Nat, j ≤ l.length ∧ i = .int .i64 j ∧ Hid (∀ (k : Nat) (h : k < l.length), k < j → inoOk l[k] = true) ∧ Below w.heap.size w wr) (fun i _ => l.length - (intOf i).toNat)
  case atStart => exact ⟨0, Nat.zero_le _, rfl, fun _ _ h => absurd h (Nat.not_lt_zero _), Below.refl _ _⟩
  case round =>
    obtain ⟨j, hj, rfl, HS, hb⟩ := hrel
    by_cases hlt : j < l.length
    · obtain ⟨g1, o1, p1, rfl, hg1, m1, m2, m3, hr1⟩ := HA.out j hlt
      have q1 := (hb.cell (p := ⟨g1, o1 + j * 3, none⟩) hg1).trans m1
      have q2 := (hb.cell (p := ⟨g1, o1 + j * 3 + 1, none⟩) hg1).trans m2
      have q3 := (hb.cell (p := ⟨g1, o1 + j * 3 + 2, none⟩) hg1).trans m3
      obtain ⟨x, hx⟩ : ∃ x, l[j] = x := ⟨_, rfl⟩
      obtain ⟨y, s, z⟩ := x
      rw [hx] at q1 q2 hr1
      obtain ⟨pa, pc, rfl⟩ := hr1.form
      simp only at q1 q2 q3 hr1
      have HR : Hid (∀ w', Below w.heap.size w w' → RInts w' (.slice pa z.length pc) z) := fun w' hb => hr1.below hb (Nat.le_refl _)
      have j0 : (0 : Int) ≤ (j : Int) := by omega
      have j1 : (j : Int) < (l.length : Int) := by omega
      have hsz := hb.size
      have HBB := hide hb
      have HX := hide hx
      clear hb m1 m2 m3 hr1 hx
      cases hq : inoOk (y, s, z) with
      | true =>
        have HQ := hide hq
        have hq2 : okL y s z = true := hq
        have HQ2 := hide hq2
        clear hq hq2
        go_wp2_with (go_at_call 144; refine (implOk_anyI _ _ z _ _ (HR.out _ (HBB.out.alloc hsz _))).mono ?_; rw [HQ2.out]; rintro e w1 ⟨rfl, B1⟩; have HB1 := hide ((HBB.out.alloc hsz _).trans (B1.mono (by simp; omega))); clear B1)
        go_roundw
        case rel =>
          refine ⟨j + 1, by omega, by go_num, fun k hk hkj => ?_, HB1.out⟩
          by_cases hkk : k = j
          · subst hkk; rw [HX.out]; exact HQ.out
          · exact HS.out k hk (by omega)
        case measure => simp [intOf]; omega
      | false =>
        have hno : inosOk l = false := all_no hlt (by rw [HX.out]; exact hq)
        have HNO := hide hno
        have hq2 : okL y s z = false := hq
        have HQ2 := hide hq2
        clear hq hq2 hno
        go_wp2_with (go_at_call 144; refine (implOk_anyI _ _ z _ _ (HR.out _ (HBB.out.alloc hsz _))).mono ?_; rw [HQ2.out]; rintro e w1 ⟨rfl, B1⟩; have HB1 := hide ((HBB.out.alloc hsz _).trans (B1.mono (by simp; omega))); clear B1)
        go_ret
        exact ⟨ret_bool (by rw [HNO.out]; rfl), HB1.out⟩
    · have hyes : inosOk l = true := all_yes fun k hk => HS.out k hk (by omega)
      have HY := hide hyes
      have HBB := hide hb
      clear hb hyes
      go_wp2
      go_ret
      exact ⟨ret_bool (by rw [HY.out, Bool.true_and, Bool.eq_iff_iff]; simp; omega), HBB.out⟩
set_option maxRecDepth 100000 in
set_option maxHeartbeats 1600000 in
theorem blksRight_any (v : Value) (l : List Blk) (w : World) (hv : R3 KB w v l) (hl : l.length ≤ 1048576) :
    Calls Tryz.prog 96 #[v] w fun e w' => e = .returned (.bool (blksOk l && decide (l.length = 16))) ∧ Below w.heap.size w w' := by
  obtain ⟨a1, c1, rfl, -, hv'⟩ := hv.blk
  have HA := hide hv'
  clear hv hv'
  go_enter Tryz.func96, Tryz.ntmps96
  go_wp2
  go_loopw [7] (fun i wr => ∃ j : Nat, j ≤ l.length ∧ i = .int .i64 j ∧ Hid (∀ (k : Nat) (h : k < l.length), k < j → blkOk l[k] = true) ∧ Below w.heap.size w wr) (fun i _ => l.length - (intOf i).toNat)
  case atStart => exact ⟨0, Nat.zero_le _, rfl, fun _ _ h => absurd h (Nat.not_lt_zero _), Below.refl _ _⟩
  case round =>
    obtain ⟨j, hj, rfl, HS, hb⟩ := hrel
    by_cases hlt : j < l.length
    · obtain ⟨g1, o1, p1, rfl, hg1, m1, m2, m3, hr1⟩ := HA.out j hlt
      have q1 := (hb.cell (p := ⟨g1, o1 + j * 3, none⟩) hg1).trans m1
      have q2 := (hb.cell (p := ⟨g1, o1 + j * 3 + 1, none⟩) hg1).trans m2
      have q3 := (hb.cell (p := ⟨g1, o1 + j * 3 + 2, none⟩) hg1).trans m3
      obtain ⟨x, hx⟩ : ∃ x, l[j] = x := ⟨_, rfl⟩
      obtain ⟨y, s, z⟩ := x
      rw [hx] at q1 q3 hr1
      obtain ⟨pa, pc, rfl⟩ := hr1.form
      simp only at q1 q2 q3 hr1
      have HR : Hid (∀ w', Below w.heap.size w w' → RSl w' (.slice pa s.length pc) s) := fun w' hb => hr1.below hb (Nat.le_refl _)
      have j0 : (0 : Int) ≤ (j : Int) := by omega
      have j1 : (j : Int) < (l.length : Int) := by omega
      have hsz := hb.size
      have HBB := hide hb
      have HX := hide hx
      clear hb m1 m2 m3 hr1 hx
      cases hq : blkOk (y, s, z) with
      | true =>
        have HQ := hide hq
        have hq2 : blockOk y s z = true := hq
        have HQ2 := hide hq2
        clear hq hq2
        go_wp2_with (go_at_call 145; refine (implOk_anyK _ _ _ s _ (HR.out _ (HBB.out.alloc hsz _))).mono ?_; rw [HQ2.out]; rintro e w1 ⟨rfl, B1⟩; have HB1 := hide ((HBB.out.alloc hsz _).trans (B1.mono (by simp; omega))); clear B1)
        go_roundw
        case rel =>
          refine ⟨j + 1, by omega, by go_num, fun k hk hkj => ?_, HB1.out⟩
          by_cases hkk : k = j
          · subst hkk; rw [HX.out]; exact HQ.out
          · exact HS.out k hk (by omega)
        case measure => simp [intOf]; omega
      | false =>
        have hno : blksOk l = false := all_no hlt (by rw [HX.out]; exact hq)
        have HNO := hide hno
        have hq2 : blockOk y s z = false := hq
        have HQ2 := hide hq2
        clear hq hq2 hno
        go_wp2_with (go_at_call 145; refine (implOk_anyK _ _ _ s _ (HR.out _ (HBB.out.alloc hsz _))).mono ?_; rw [HQ2.out]; rintro e w1 ⟨rfl, B1⟩; have HB1 := hide ((HBB.out.alloc hsz _).trans (B1.mono (by simp; omega))); clear B1)
        go_ret
        exact ⟨ret_bool (by rw [HNO.out]; rfl), HB1.out⟩
    · have hyes : blksOk l = true := all_yes fun k hk => HS.out k hk (by omega)
      have HY := hide hyes
      have HBB := hide hb
      clear hb hyes
      go_wp2
      go_ret
      exact ⟨ret_bool (by rw [HY.out, Bool.true_and, Bool.eq_iff_iff]; simp; omega), HBB.out⟩
end Go.Proofs.YtmjhgfkplolelaaGreat
/- What a disk tells, as plain functions: kinds, pointers, named slots, where a name leads. No Go function is spoken of. -/
namespace Go.Proofs.YtmjhgfkplolelaaGreat
open Go.RowKit Kit
def kindAt (is : List Ino) (i : Int) : Int := if inB i 1 is.length = true then (is.getD (i - 1).toNat (0, 0, [])).1 else 0
def ptrsAt (is : List Ino) (i : Int) : List Int := if inB i 1 is.length = true then (is.getD (i - 1).toNat (0, 0, [])).2.2 else []
/-- The slots that have a name. -/
def nmdS (ss : List Sl) : List Sl := ss.filter fun s => decide (¬ s.1 = ⟨#[]⟩)
def nmd (b : Blk) : List Sl := if b.1 = true then nmdS b.2.1 else []
/-- The named slots of blocks, in order. -/
def nmdP (bs : List Blk) (ps : List Int) : List Sl := ps.flatMap fun p => nmd (blkAt bs p)
/-- The named slots of a directory. -/
def named (is : List Ino) (bs : List Blk) (i : Int) : List Sl := if kindAt is i = 2 then nmdP bs (ptrsAt is i) else []
/-- Where the first slot with a name leads. -/
def findI : List Sl → ByteArray → Int
  | [], _ => 0
  | s :: r, nm => if s.1 = nm then s.2 else findI r nm
theorem findI_append {a b : List Sl} {nm : ByteArray} (h : ∀ s ∈ a, ¬ s.1 = nm) : findI (a ++ b) nm = findI b nm := by
  induction a with
  | nil => rfl
  | cons s r ih =>
    rw [List.cons_append, findI, if_neg (h s (by simp))]
    exact ih fun x hx => h x (by simp [hx])
theorem findI_none {a : List Sl} {nm : ByteArray} (h : ∀ s ∈ a, ¬ s.1 = nm) : findI a nm = 0 := by
  have := findI_append (b := []) h
  rw [List.append_nil] at this
  rw [this]; rfl
theorem size_ne {nm : ByteArray} (h : nm.size ≠ 0) : ¬ nm = ⟨#[]⟩ := fun e => h (by rw [e]; rfl)
theorem ne_size {nm : ByteArray} (h : ¬ nm = ⟨#[]⟩) : nm.size ≠ 0 := fun e => h (by
  obtain ⟨⟨l⟩⟩ := nm
  have : l = [] := List.length_eq_zero_iff.1 e
  subst this
  rfl)
theorem findI_first {ss c : List Sl} {nm : ByteArray} {j : Nat} (hj : j < ss.length) (h : ss[j].1 = nm) (hn : nm.size ≠ 0) (hf : ∀ (i : Nat) (hi : i < j), ¬ (ss[i]'(Nat.lt_trans hi hj)).1 = nm) : findI (nmdS ss ++ c) nm = ss[j].2 := by
  induction ss generalizing j with
  | nil => simp at hj
  | cons s r ih =>
    cases j with
    | zero =>
      have h' : s.1 = nm := h
      have : nmdS (s :: r) = s :: nmdS r := by simp [nmdS, h', size_ne hn]
      rw [this, List.cons_append, findI, if_pos h']
      rfl
    | succ j =>
      have h0 : ¬ s.1 = nm := hf 0 (Nat.succ_pos _)
      have hi := ih (j := j) (by simpa using hj) h (fun i hi => hf (i + 1) (Nat.succ_lt_succ hi))
      by_cases e : s.1 = ⟨#[]⟩
      · have : nmdS (s :: r) = nmdS r := by simp [nmdS, e]
        rw [this]; exact hi
      · have : nmdS (s :: r) = s :: nmdS r := by simp [nmdS, e]
        rw [this, List.cons_append, findI, if_neg h0]; exact hi
theorem mem_nmdS {ss : List Sl} {s : Sl} (h : s ∈ nmdS ss) : s ∈ ss ∧ ¬ s.1 = ⟨#[]⟩ := by
  have := List.mem_filter.1 h
  exact ⟨this.1, by simpa using this.2⟩
theorem nmdS_none {ss : List Sl} {nm : ByteArray} (h : ∀ (i : Nat) (hi : i < ss.length), ¬ ss[i].1 = nm) : ∀ s ∈ nmdS ss, ¬ s.1 = nm := fun s hs => by
  obtain ⟨i, hi, rfl⟩ := List.getElem_of_mem (mem_nmdS hs).1
  exact h i hi
theorem nmdP_take {bs : List Blk} {ps : List Int} {q : Nat} (h : q < ps.length) : nmdP bs (ps.take (q + 1)) = nmdP bs (ps.take q) ++ nmd (blkAt bs ps[q]) := by
  rw [List.take_succ_eq_append_getElem h]
  unfold nmdP
  rw [List.flatMap_append, List.flatMap_cons, List.flatMap_nil, List.append_nil]
theorem nmdP_split {bs : List Blk} {ps : List Int} {q : Nat} (h : q < ps.length) : nmdP bs ps = nmdP bs (ps.take q) ++ (nmd (blkAt bs ps[q]) ++ nmdP bs (ps.drop (q + 1))) := by
  have e : ps = ps.take q ++ ps[q] :: ps.drop (q + 1) := by
    rw [← List.drop_eq_getElem_cons h, List.take_append_drop]
  have : nmdP bs (ps.take q ++ ps[q] :: ps.drop (q + 1)) = nmdP bs (ps.take q) ++ (nmd (blkAt bs ps[q]) ++ nmdP bs (ps.drop (q + 1))) := by
    unfold nmdP
    rw [List.flatMap_append, List.flatMap_cons]
  rw [← e] at this
  exact this
theorem nmdS_take {ss : List Sl} {t : Nat} (h : t < ss.length) : nmdS (ss.take (t + 1)) = nmdS (ss.take t) ++ (if ss[t].1 = ⟨#[]⟩ then [] else [ss[t]]) := by
  rw [List.take_succ_eq_append_getElem h]
  unfold nmdS
  rw [List.filter_append]
  by_cases e : ss[t].1 = ⟨#[]⟩
  · rw [if_pos e, List.filter_cons_of_neg (by simp [e]), List.filter_nil]
  · rw [if_neg e, List.filter_cons_of_pos (by simp [e]), List.filter_nil]
theorem kindAt_in {is : List Ino} {j : Nat} (h : j < is.length) : kindAt is ((j : Int) + 1) = is[j].1 ∧ ptrsAt is ((j : Int) + 1) = is[j].2.2 := by
  have hb : inB ((j : Int) + 1) 1 is.length = true := by simp [inB]; omega
  unfold kindAt ptrsAt
  rw [if_pos hb, if_pos hb, show ((j : Int) + 1 - 1).toNat = j by omega]
  simp [h]
theorem kindAt_out {is : List Ino} {i : Int} (h : inB i 1 is.length = false) : kindAt is i = 0 := by unfold kindAt; rw [h]; rfl
theorem blkAt_no {bs : List Blk} {x : Int} (h : inB x 1 bs.length = false) : blkAt bs x = (false, [], ⟨#[]⟩) := by unfold blkAt; rw [h]; rfl
end Go.Proofs.YtmjhgfkplolelaaGreat
/- A region whose order is drawn, in which several operations make memory, each by itself, and the rest goes in one order: one obligation for each maker, one for the rest, whatever the order. No Go function is spoken of. -/
namespace Go.Proofs.YtmjhgfkplolelaaGreat.Kit
open Go.RowKit
/-- All lists that a list comes to when some are left out. -/
def subs : List Nat → List (List Nat)
  | [] => [[]]
  | x :: r => subs r ++ (subs r).map fun t => x :: t
theorem filter_subs (p : Nat → Bool) (js : List Nat) : js.filter p ∈ subs js := by
  induction js with
  | nil => simp [subs]
  | cons x r ih =>
    rw [subs, List.mem_append]
    by_cases h : p x = true
    · rw [List.filter_cons_of_pos h]
      exact .inr (List.mem_map.2 ⟨_, ih, rfl⟩)
    · rw [List.filter_cons_of_neg h]
      exact .inl ih
/-- Which of n operations are done. -/
def mask (n : Nat) (s : List Nat) : Array Bool := ((List.range n).map fun i => s.contains i).toArray
theorem mask_set (n : Nat) (s : List Nat) (j : Nat) : (mask n s).setIfInBounds j true = mask n (j :: s) := by
  apply Array.ext
  · simp [mask]
  · intro i h1 h2
    simp only [mask, Array.size_setIfInBounds, List.size_toArray, List.length_map, List.length_range] at h1
    rw [Array.getElem_setIfInBounds (by simpa [mask] using h1)]
    simp only [mask, List.getElem_toArray, List.getElem_map, List.getElem_range, List.contains_cons]
    by_cases e : j = i
    · simp [e]
    · have e' : (i == j) = false := by simp; omega
      simp [e, e']
theorem mask_congr (n : Nat) (s s' : List Nat) (h : ∀ i, i ∈ s ↔ i ∈ s') : mask n s = mask n s' := by
  have e : (fun i => s.contains i) = fun i => s'.contains i := by
    funext i
    have := h i
    by_cases hi : i ∈ s
    · simp [hi, this.1 hi]
    · have : ¬ i ∈ s' := fun q => hi (this.2 q)
      simp [hi, this]
  rw [mask, mask, e]
theorem mask_nil (n : Nat) : mask n [] = Array.replicate n false := by
  apply Array.ext
  · simp [mask]
  · intro i h1 h2
    simp [mask]
def upd {α : Type} (x : Nat → α) (j : Nat) (v : α) : Nat → α := fun i => if i = j then v else x i
theorem upd_self {α : Type} (x : Nat → α) (j : Nat) (v : α) : upd x j v j = v := if_pos rfl
theorem upd_ne {α : Type} (x : Nat → α) (j i : Nat) (v : α) (h : i ≠ j) : upd x j v i = x i := if_neg h
/-- Of the makers s that are done: what each made, in blocks of its own from .1 up to .2. -/
structure PI (W0 : World) (s : List Nat) (Post : Nat → Nat → Nat → World → Value → Prop) (x : Nat → Value) (iv : Nat → Nat × Nat) (w : World) : Prop where
  bel : Below W0.heap.size W0 w
  post : ∀ i ∈ s, Post i (iv i).1 (iv i).2 w (x i)
  lo : ∀ i ∈ s, W0.heap.size ≤ (iv i).1 ∧ (iv i).1 ≤ (iv i).2 ∧ (iv i).2 ≤ w.heap.size
  apart : ∀ i ∈ s, ∀ j ∈ s, i ≠ j → (iv i).2 ≤ (iv j).1 ∨ (iv j).2 ≤ (iv i).1
theorem PI.add {W0 : World} {s : List Nat} {Post : Nat → Nat → Nat → World → Value → Prop} {x : Nat → Value} {iv : Nat → Nat × Nat} {w w' : World} {j : Nat} {v : Value} (h : PI W0 s Post x iv w)
    (stable : ∀ i lo hi w w' v, Post i lo hi w v → Below w.heap.size w w' → Post i lo hi w' v) (hj : ¬ j ∈ s) (hb : Below w.heap.size w w') (hp : Post j w.heap.size w'.heap.size w' v) :
    PI W0 (j :: s) Post (upd x j v) (upd iv j (w.heap.size, w'.heap.size)) w' := by
  have hs := h.bel.size
  have hs2 := hb.size
  have ne : ∀ i ∈ s, i ≠ j := fun i hi e => hj (e ▸ hi)
  refine ⟨h.bel.trans (hb.mono hs), fun i hi => ?_, fun i hi => ?_, fun i hi k hk hne => ?_⟩
  · rcases List.mem_cons.1 hi with rfl | hi
    · rw [upd_self, upd_self]; exact hp
    · rw [upd_ne _ _ _ _ (ne i hi), upd_ne _ _ _ _ (ne i hi)]; exact stable _ _ _ _ _ _ (h.post i hi) hb
  · rcases List.mem_cons.1 hi with rfl | hi
    · rw [upd_self]; exact ⟨hs, hs2, Nat.le_refl _⟩
    · rw [upd_ne _ _ _ _ (ne i hi)]; have := h.lo i hi; omega
  · rcases List.mem_cons.1 hi with ei | hi2
    · rcases List.mem_cons.1 hk with ek | hk2
      · exact absurd (ei.trans ek.symm) hne
      · rw [ei, upd_self, upd_ne _ _ _ _ (ne k hk2)]; exact .inr (h.lo k hk2).2.2
    · rcases List.mem_cons.1 hk with ek | hk2
      · rw [ek, upd_self, upd_ne _ _ _ _ (ne i hi2)]; exact .inl (h.lo i hi2).2.2
      · replace hi := hi2
        replace hk := hk2
        rw [upd_ne _ _ _ _ (ne i hi), upd_ne _ _ _ _ (ne k hk)]; exact h.apart i hi k hk hne
theorem PI.of_mem {W0 : World} {s s' : List Nat} {Post : Nat → Nat → Nat → World → Value → Prop} {x : Nat → Value} {iv : Nat → Nat × Nat} {w : World} (h : PI W0 s Post x iv w) (hs : ∀ i ∈ s', i ∈ s) : PI W0 s' Post x iv w :=
  ⟨h.bel, fun i hi => h.post i (hs i hi), fun i hi => h.lo i (hs i hi), fun i hi j hj => h.apart i (hs i hi) j (hs j hj)⟩
/-- What each of t waits for is in t. -/
def closedB (md : Region.Mode) (ops : Array Oper) (t : List Nat) : Bool := t.all fun i => match ops[i]? with | some o => o.after.all fun e => !Region.binds md e || t.contains e.on | none => true
/-- At each state of the makers some are ready, and no other operation is. -/
def makersOk (md : Region.Mode) (ops : Array Oper) (js : List Nat) : Bool :=
  (subs js).all fun t => t == js || !closedB md ops t || (!(Region.ready md ops (mask ops.size t)).isEmpty && (Region.ready md ops (mask ops.size t)).all fun i => js.contains i && !t.contains i)
/-- Behind them the others come in this order. -/
def lineOk (md : Region.Mode) (ops : Array Oper) : List Nat → List Nat → Bool
  | s, [] => (Region.ready md ops (mask ops.size s)).isEmpty
  | s, i :: r => (Region.ready md ops (mask ops.size s) == [i]) && (ops[i]?).isSome && lineOk md ops (i :: s) r
section
variable {P : Program} {ops : Array Oper} {Q : Exit → Act → World → Prop} {md : Region.Mode}
theorem wpAny_line : ∀ (line s : List Nat) (fuel : Nat) (a : Act) (w : World), lineOk md ops s line = true → line.length ≤ fuel → wpList P ops Q (line.filterMap fun i => ops[i]?) a w → wpAny P md ops Q fuel (mask ops.size s) a w
  | [], s, fuel, a, w, h, _, hw => wpAny_done (by simpa [lineOk] using h) (by simpa [wpList] using hw) fuel
  | i :: r, s, 0, a, w, _, hl, _ => by simp at hl
  | i :: r, s, fuel + 1, a, w, h, hl, hw => by
    simp only [lineOk, Bool.and_eq_true, beq_iff_eq] at h
    obtain ⟨⟨h1, h2⟩, h3⟩ := h
    obtain ⟨o, ho⟩ := Option.isSome_iff_exists.1 h2
    have ih := fun a w hw => wpAny_line r (i :: s) fuel a w h3 (by simpa using hl) hw
    refine wpAny_all h1 (by simp) fun j hj => ?_
    obtain rfl : j = i := by simpa using hj
    rw [mask_set]
    have hw' : wpList P ops Q (o :: r.filterMap fun i => ops[i]?) a w := by simpa [ho] using hw
    refine wpOp_mono (fun a w => ih a w) ?_
    unfold wpOp
    rw [ho]
    exact hw'
/-- What an operation that is ready waits for is done. -/
theorem ready_dep {n : Nat} {s : List Nat} {j : Nat} (h : j ∈ Region.ready md ops (mask n s)) {o : Oper} (ho : ops[j]? = some o) {k : Nat} (he : ∃ e ∈ o.after, e.on = k ∧ Region.binds md e = true) : k ∈ s := by
  obtain ⟨-, o', ho', hall⟩ := mem_ready.1 h
  rw [ho] at ho'
  cases ho'
  obtain ⟨e, he1, rfl, he2⟩ := he
  have := hall e he1 he2
  rw [mask] at this
  by_cases hn : e.on < n
  · simpa [Array.getD, hn] using this
  · simp [Array.getD, hn] at this
theorem wpAny_makers (js : List Nat) (fuel : Nat) (act : (Nat → Value) → Act) (W0 : World) (Post : Nat → Nat → Nat → World → Value → Prop) (Inv : List Nat → (Nat → Value) → World → Prop)
    (stable : ∀ i lo hi w w' v, Post i lo hi w v → Below w.heap.size w w' → Post i lo hi w' v) (ok : makersOk md ops js = true)
    (prod : ∀ j ∈ js, ∀ s x iv W, j ∈ Region.ready md ops (mask ops.size s) → ¬ j ∈ s → PI W0 s Post x iv W → Inv s x W → ∀ K : Act → World → Prop, (∀ v W', Below W.heap.size W W' → Post j W.heap.size W'.heap.size W' v → Inv (j :: s) (upd x j v) W' → K (act (upd x j v)) W') → wpOp P ops Q j K (act x) W)
    (rest : ∀ s x iv W f, fuel ≤ f → (∀ i ∈ js, i ∈ s) → PI W0 js Post x iv W → Inv s x W → wpAny P md ops Q f (mask ops.size js) (act x) W) :
    ∀ (m f : Nat) (s : List Nat) (x : Nat → Value) (iv : Nat → Nat × Nat) (W : World), (js.filter fun i => !s.contains i).length ≤ m → fuel ≤ f → (∀ i ∈ s, i ∈ js) → (∀ i ∈ s, ∀ o, ops[i]? = some o → ∀ e ∈ o.after, Region.binds md e = true → e.on ∈ s) → PI W0 s Post x iv W → Inv s x W → wpAny P md ops Q (f + m) (mask ops.size s) (act x) W := by
  intro m
  induction m with
  | zero =>
    intro f s x iv W hc hf hs hcl hp hv
    have hall : ∀ i ∈ js, i ∈ s := fun i hi => by
      by_cases h : i ∈ s
      · exact h
      · have : i ∈ js.filter fun i => !s.contains i := List.mem_filter.2 ⟨hi, by simpa using h⟩
        rw [List.eq_nil_of_length_eq_zero (Nat.le_zero.1 hc)] at this
        cases this
    rw [mask_congr ops.size s js fun i => ⟨hs i, hall i⟩]
    exact rest s x iv W (f + 0) (by omega) hall (hp.of_mem hall) hv
  | succ m ih =>
    intro f s x iv W hc hf hs hcl hp hv
    by_cases hall : ∀ i ∈ js, i ∈ s
    · rw [mask_congr ops.size s js fun i => ⟨hs i, hall i⟩]
      exact rest s x iv W _ (by omega) hall (hp.of_mem hall) hv
    · have hmask : mask ops.size s = mask ops.size (js.filter fun i => s.contains i) := mask_congr _ _ _ fun i => ⟨fun h => List.mem_filter.2 ⟨hs i h, by simpa using h⟩, fun h => by simpa using (List.mem_filter.1 h).2⟩
      have hk := List.all_eq_true.1 ok _ (filter_subs (fun i => s.contains i) js)
      have hne : ((js.filter fun i => s.contains i) == js) = false := by
        apply Bool.eq_false_iff.2
        intro e
        rw [beq_iff_eq] at e
        exact hall fun i hi => by
          rw [← e] at hi
          simpa using (List.mem_filter.1 hi).2
      have hclo : closedB md ops (js.filter fun i => s.contains i) = true := by
        refine List.all_eq_true.2 fun i hi => ?_
        have his : i ∈ s := by simpa using (List.mem_filter.1 hi).2
        cases ho : ops[i]? with
        | none => rfl
        | some o =>
          simp only
          refine Array.all_eq_true_iff_forall_mem.2 fun e he => ?_
          cases hbi : Region.binds md e with
          | false => rfl
          | true =>
            have := hcl i his o ho e he hbi
            simp [this, hs _ this]
      rw [hne, hclo, Bool.false_or, Bool.not_true, Bool.false_or, Bool.and_eq_true] at hk
      obtain ⟨h1, h2⟩ := hk
      rw [← hmask] at h1 h2
      refine wpAny_all rfl (by intro e; rw [e] at h1; simp at h1) fun j hj => ?_
      have hj2 := List.all_eq_true.1 h2 j hj
      simp only [Bool.and_eq_true, List.contains_iff_mem, Bool.not_eq_true'] at hj2
      have hjs : j ∈ js := by simpa using hj2.1
      have hjn : ¬ j ∈ s := fun h => by
        have : j ∈ js.filter fun i => s.contains i := List.mem_filter.2 ⟨hjs, by simpa using h⟩
        have h3 := hj2.2
        simp [hjs, h] at h3
      rw [mask_set]
      refine prod j hjs s x iv W hj hjn hp hv _ fun v W' hb hpo hv' => ih f (j :: s) _ _ W' ?_ hf (fun i hi => (List.mem_cons.1 hi).elim (fun e => e ▸ hjs) (hs i)) (fun i hi o ho e he hbi => List.mem_cons_of_mem _ ((List.mem_cons.1 hi).elim (fun q => by subst q; exact ready_dep hj ho ⟨e, he, rfl, hbi⟩) (fun q => hcl i q o ho e he hbi))) (hp.add stable hjn hb hpo) hv'
      have hlt : (js.filter fun i => !(j :: s).contains i).length < (js.filter fun i => !s.contains i).length := by
        have e : (js.filter fun i => !(j :: s).contains i) = (js.filter fun i => !s.contains i).filter fun i => !(i == j) := by
          rw [List.filter_filter]
          apply List.filter_congr
          intro i _
          by_cases e1 : i = j <;> by_cases e2 : i ∈ s <;> simp [e1, e2]
        rw [e, List.length_filter_lt_length_iff_exists]
        exact ⟨j, List.mem_filter.2 ⟨hjs, by simpa using hjn⟩, by simp⟩
      omega
/-- The region, whatever order is drawn. -/
theorem wp_region_makers {id : Nat} {w : World} {a0 : Act} (hm : P.follows .mixedOrders = true) (js line : List Nat) (act : (Nat → Value) → Act) (x0 : Nat → Value) (ha : a0 = act x0) (Post : Nat → Nat → Nat → World → Value → Prop) (Inv : List Nat → (Nat → Value) → World → Prop)
    (stable : ∀ i lo hi w w' v, Post i lo hi w v → Below w.heap.size w w' → Post i lo hi w' v) (ok : makersOk .any ops js = true) (okl : lineOk .any ops js line = true) (hsz : line.length + js.length = ops.size) (hv : Inv [] x0 w.drew)
    (prod : ∀ j ∈ js, ∀ s x iv W, j ∈ Region.ready .any ops (mask ops.size s) → ¬ j ∈ s → PI w.drew s Post x iv W → Inv s x W → ∀ K : Act → World → Prop, (∀ v W', Below W.heap.size W W' → Post j W.heap.size W'.heap.size W' v → Inv (j :: s) (upd x j v) W' → K (act (upd x j v)) W') → wpOp P ops Q j K (act x) W)
    (rest : ∀ s x iv W, (∀ i ∈ js, i ∈ s) → PI w.drew js Post x iv W → Inv s x W → wpList P ops Q (line.filterMap fun i => ops[i]?) (act x) W) : (Code.region id ops true).wp P Q a0 w := by
  subst ha
  refine wp_region_any hm ?_
  have h := wpAny_makers (P := P) (Q := Q) (md := .any) js line.length act w.drew Post Inv stable ok prod (fun s x iv W f hf hs hp hi => wpAny_line line js f (act x) W okl hf (rest s x iv W hs hp hi)) js.length line.length [] x0 (fun _ => (0, 0)) w.drew (List.length_filter_le _ _) (Nat.le_refl _) (fun i hi => by cases hi) (fun i hi => by cases hi) ⟨Below.refl _ _, (fun i hi => by cases hi), (fun i hi => by cases hi), (fun i hi => by cases hi)⟩ hv
  rw [hsz, mask_nil] at h
  exact h
end
end Go.Proofs.YtmjhgfkplolelaaGreat.Kit
/- A drawn region whose operations only read and make memory, ahead of a line of others: each is told once, by what it yields out of what it waits for. No Go function is spoken of. -/
namespace Go.Proofs.YtmjhgfkplolelaaGreat.Kit
open Go.RowKit
/-- What is done so far: each yielded what is told of it, in an interval of new blocks of its own. -/
structure PX (W0 : World) (s : List Nat) (Po : Nat → Nat → Nat → World → (Nat → Value) → Prop) (x : Nat → Value) (iv : Nat → Nat × Nat) (w : World) : Prop where
  bel : Below W0.heap.size W0 w
  post : ∀ i ∈ s, Po i (iv i).1 (iv i).2 w x
  lo : ∀ i ∈ s, W0.heap.size ≤ (iv i).1 ∧ (iv i).1 ≤ (iv i).2 ∧ (iv i).2 ≤ w.heap.size
  apart : ∀ i ∈ s, ∀ j ∈ s, i ≠ j → (iv i).2 ≤ (iv j).1 ∨ (iv j).2 ≤ (iv i).1
theorem PX.add {W0 : World} {s : List Nat} {Po : Nat → Nat → Nat → World → (Nat → Value) → Prop} {x : Nat → Value} {iv : Nat → Nat × Nat} {w w' : World} {j : Nat} {v : Value} (deps : Nat → List Nat) (h : PX W0 s Po x iv w)
    (stable : ∀ i lo hi w w' x, Po i lo hi w x → Below w.heap.size w w' → Po i lo hi w' x) (cong : ∀ i lo hi w x x', x i = x' i → (∀ k ∈ deps i, x k = x' k) → Po i lo hi w x → Po i lo hi w x')
    (hcl : ∀ i ∈ s, ∀ k ∈ deps i, k ∈ s) (hj : ¬ j ∈ s) (hb : Below w.heap.size w w') (hp : Po j w.heap.size w'.heap.size w' (upd x j v)) :
    PX W0 (j :: s) Po (upd x j v) (upd iv j (w.heap.size, w'.heap.size)) w' := by
  have hs := h.bel.size
  have hs2 := hb.size
  have ne : ∀ i ∈ s, i ≠ j := fun i hi e => hj (e ▸ hi)
  refine ⟨h.bel.trans (hb.mono hs), fun i hi => ?_, fun i hi => ?_, fun i hi k hk hne => ?_⟩
  · rcases List.mem_cons.1 hi with rfl | hi
    · rw [upd_self]; exact hp
    · rw [upd_ne _ _ _ _ (ne i hi)]
      exact cong _ _ _ _ _ _ (upd_ne _ _ _ _ (ne i hi)).symm (fun k hk => (upd_ne _ _ _ _ (ne k (hcl i hi k hk))).symm) (stable _ _ _ _ _ _ (h.post i hi) hb)
  · rcases List.mem_cons.1 hi with rfl | hi
    · rw [upd_self]; exact ⟨hs, hs2, Nat.le_refl _⟩
    · rw [upd_ne _ _ _ _ (ne i hi)]; have := h.lo i hi; omega
  · rcases List.mem_cons.1 hi with ei | hi2
    · rcases List.mem_cons.1 hk with ek | hk2
      · exact absurd (ei.trans ek.symm) hne
      · rw [ei, upd_self, upd_ne _ _ _ _ (ne k hk2)]; exact .inr (h.lo k hk2).2.2
    · rcases List.mem_cons.1 hk with ek | hk2
      · rw [ek, upd_self, upd_ne _ _ _ _ (ne i hi2)]; exact .inl (h.lo i hi2).2.2
      · rw [upd_ne _ _ _ _ (ne i hi2), upd_ne _ _ _ _ (ne k hk2)]; exact h.apart i hi2 k hk2 hne
theorem PX.of_mem {W0 : World} {s s' : List Nat} {Po : Nat → Nat → Nat → World → (Nat → Value) → Prop} {x : Nat → Value} {iv : Nat → Nat × Nat} {w : World} (h : PX W0 s Po x iv w) (hs : ∀ i ∈ s', i ∈ s) : PX W0 s' Po x iv w :=
  ⟨h.bel, fun i hi => h.post i (hs i hi), fun i hi => h.lo i (hs i hi), fun i hi j hj => h.apart i (hs i hi) j (hs j hj)⟩
/-- What each waits for is among its edges. -/
def depsOk (ops : Array Oper) (js : List Nat) (deps : Nat → List Nat) : Bool := js.all fun j => match ops[j]? with | some o => (deps j).all fun k => o.after.any fun e => e.on == k && Region.binds .any e | none => false
section
variable {P : Program} {ops : Array Oper} {Q : Exit → Act → World → Prop}
/-- The region, whatever order is drawn. -/
theorem wp_region_gen {id : Nat} {w : World} {a0 : Act} (hm : P.follows .mixedOrders = true) (js line : List Nat) (deps : Nat → List Nat) (act : (Nat → Value) → Act) (x0 : Nat → Value) (ha : a0 = act x0) (Po : Nat → Nat → Nat → World → (Nat → Value) → Prop)
    (stable : ∀ i lo hi w w' x, Po i lo hi w x → Below w.heap.size w w' → Po i lo hi w' x) (cong : ∀ i lo hi w x x', x i = x' i → (∀ k ∈ deps i, x k = x' k) → Po i lo hi w x → Po i lo hi w x')
    (ok : makersOk .any ops js = true) (okl : lineOk .any ops js line = true) (okd : depsOk ops js deps = true) (hsz : line.length + js.length = ops.size)
    (prod : ∀ j ∈ js, ∀ s x iv W, (∀ k ∈ deps j, k ∈ s) → PX w.drew s Po x iv W → ∀ K : Act → World → Prop, (∀ v W', Below W.heap.size W W' → Po j W.heap.size W'.heap.size W' (upd x j v) → K (act (upd x j v)) W') → wpOp P ops Q j K (act x) W)
    (rest : ∀ x iv W, PX w.drew js Po x iv W → wpList P ops Q (line.filterMap fun i => ops[i]?) (act x) W) : (Code.region id ops true).wp P Q a0 w := by
  have dep : ∀ j ∈ js, ∀ s, j ∈ Region.ready .any ops (mask ops.size s) → ∀ k ∈ deps j, k ∈ s := by
    intro j hj s hr k hk
    have h := List.all_eq_true.1 okd j hj
    cases ho : ops[j]? with
    | none => rw [ho] at h; cases h
    | some o =>
      rw [ho] at h
      simp only [List.all_eq_true, Array.any_eq_true] at h
      obtain ⟨i, hi, h2⟩ := h k hk
      simp only [Bool.and_eq_true, beq_iff_eq] at h2
      exact ready_dep hr ho ⟨o.after[i], Array.getElem_mem hi, h2.1, h2.2⟩
  refine wp_region_makers hm js line act x0 ha (fun _ _ _ _ _ => True) (fun s x W => (∀ i ∈ s, ∀ k ∈ deps i, k ∈ s) ∧ ∃ iv, PX w.drew s Po x iv W) (fun _ _ _ _ _ _ _ _ => trivial) ok okl hsz ⟨(fun i hi => by cases hi), fun _ => (0, 0), ⟨Below.refl _ _, (fun i hi => by cases hi), (fun i hi => by cases hi), (fun i hi => by cases hi)⟩⟩ ?_ ?_
  · intro j hj s x iv W hr hns _ hI K hK
    obtain ⟨hcl, iv2, hp⟩ := hI
    have hd := dep j hj s hr
    refine prod j hj s x iv2 W hd hp K fun v W' hb hpo => hK v W' hb trivial ⟨fun i hi k hk => ?_, _, hp.add deps stable cong hcl hns hb hpo⟩
    rcases List.mem_cons.1 hi with rfl | hi
    · exact List.mem_cons_of_mem _ (hd k hk)
    · exact List.mem_cons_of_mem _ (hcl i hi k hk)
  · intro s x iv W hs _ hI
    obtain ⟨-, iv2, hp⟩ := hI
    exact rest x iv2 W (hp.of_mem hs)
end
end Go.Proofs.YtmjhgfkplolelaaGreat.Kit
namespace Go.Proofs.YtmjhgfkplolelaaGreat.Kit
open Go.RowKit
/-- What is told of one operation's value: out of the interval of its blocks, the world, the value, and the values that it waited for. -/
structure Mk where
  deps : List Nat
  P : Nat → Nat → World → Value → (Nat → Value) → Prop
  st : ∀ lo hi w w' v x, P lo hi w v x → Below w.heap.size w w' → P lo hi w' v x
  cg : ∀ lo hi w v x x', (∀ k ∈ deps, x k = x' k) → P lo hi w v x → P lo hi w v x'
/-- Nothing is told. -/
def Mk.triv : Mk := ⟨[], fun _ _ _ _ _ => True, fun _ _ _ _ _ _ _ _ => trivial, fun _ _ _ _ _ _ _ _ => trivial⟩
/-- The value is known. -/
def Mk.const (deps : List Nat) (C : Value) : Mk := ⟨deps, fun _ _ _ v _ => v = C, fun _ _ _ _ _ _ h _ => h, fun _ _ _ _ _ _ _ h => h⟩
/-- Something is told of the value alone. -/
def Mk.val (deps : List Nat) (R : Nat → Nat → World → Value → Prop) (st : ∀ lo hi w w' v, R lo hi w v → Below w.heap.size w w' → R lo hi w' v) : Mk :=
  ⟨deps, fun lo hi w v _ => R lo hi w v, fun lo hi w w' v _ h hb => st lo hi w w' v h hb, fun _ _ _ _ _ _ _ h => h⟩
/-- Something is told of the value, beside one that it waited for. -/
def Mk.val1 (deps : List Nat) (k : Nat) (hk : k ∈ deps) (R : Nat → Nat → World → Value → Value → Prop) (st : ∀ lo hi w w' u v, R lo hi w u v → Below w.heap.size w w' → R lo hi w' u v) : Mk :=
  ⟨deps, fun lo hi w v x => R lo hi w (x k) v, fun lo hi w w' v x h hb => st lo hi w w' (x k) v h hb, fun lo hi w v x x' e h => by rw [← e k hk]; exact h⟩
/-- The frame with the values of the first operations in their slots. -/
def actOf (a : Act) : List Nat → Nat → (Nat → Value) → Act
  | [], _, _ => a
  | s :: r, i, x => actOf (a.put (some s) (x i)) r (i + 1) x
section
variable {P : Program} {ops : Array Oper} {Q : Exit → Act → World → Prop}
theorem wp_region_mk {id : Nat} {w : World} {a0 : Act} (hm : P.follows .mixedOrders = true) (js line sl : List Nat) (L : Nat → Mk) (x0 : Nat → Value) (ha : a0 = actOf a0 sl 0 x0)
    (ok : makersOk .any ops js = true) (okl : lineOk .any ops js line = true) (okd : depsOk ops js (fun i => (L i).deps) = true) (hsz : line.length + js.length = ops.size)
    (prod : ∀ j ∈ js, ∀ s x iv W, (∀ k ∈ (L j).deps, k ∈ s) → PX w.drew s (fun i lo hi w x => (L i).P lo hi w (x i) x) x iv W → ∀ K : Act → World → Prop, (∀ v W', Below W.heap.size W W' → (L j).P W.heap.size W'.heap.size W' v (upd x j v) → K (actOf a0 sl 0 (upd x j v)) W') → wpOp P ops Q j K (actOf a0 sl 0 x) W)
    (rest : ∀ x iv W, PX w.drew js (fun i lo hi w x => (L i).P lo hi w (x i) x) x iv W → wpList P ops Q (line.filterMap fun i => ops[i]?) (actOf a0 sl 0 x) W) : (Code.region id ops true).wp P Q a0 w :=
  wp_region_gen hm js line (fun i => (L i).deps) (actOf a0 sl 0) x0 ha (fun i lo hi w x => (L i).P lo hi w (x i) x) (fun i lo hi w w' x h hb => (L i).st lo hi w w' (x i) x h hb)
    (fun i lo hi w x x' e1 e2 h => by rw [← e1]; exact (L i).cg lo hi w (x i) x x' e2 h) ok okl okd hsz (fun j hj s x iv W hd hp K hK => prod j hj s x iv W hd hp K fun v W' hb h => hK v W' hb (by rw [upd_self]; exact h)) rest
/-- The same, from the values that lie in the slots. -/
theorem wp_region_mks {id : Nat} {w : World} {a0 : Act} (hm : P.follows .mixedOrders = true) (js line sl : List Nat) (L : Nat → Mk) (ha : a0 = actOf a0 sl 0 (fun i => a0.tmps.getD (sl.getD i 0) undef))
    (ok : makersOk .any ops js = true) (okl : lineOk .any ops js line = true) (okd : depsOk ops js (fun i => (L i).deps) = true) (hsz : line.length + js.length = ops.size)
    (prod : ∀ j ∈ js, ∀ s x iv W, (∀ k ∈ (L j).deps, k ∈ s) → PX w.drew s (fun i lo hi w x => (L i).P lo hi w (x i) x) x iv W → ∀ K : Act → World → Prop, (∀ v W', Below W.heap.size W W' → (L j).P W.heap.size W'.heap.size W' v (upd x j v) → K (actOf a0 sl 0 (upd x j v)) W') → wpOp P ops Q j K (actOf a0 sl 0 x) W)
    (rest : ∀ x iv W, PX w.drew js (fun i lo hi w x => (L i).P lo hi w (x i) x) x iv W → wpList P ops Q (line.filterMap fun i => ops[i]?) (actOf a0 sl 0 x) W) : (Code.region id ops true).wp P Q a0 w :=
  wp_region_mk hm js line sl L _ ha ok okl okd hsz prod rest
/-- The same, with the frame written out. -/
theorem wp_region_frm {id : Nat} {w : World} {a0 : Act} (hm : P.follows .mixedOrders = true) (js line : List Nat) (L : Nat → Mk) (act : (Nat → Value) → Act) (x0 : Nat → Value) (ha : a0 = act x0)
    (ok : makersOk .any ops js = true) (okl : lineOk .any ops js line = true) (okd : depsOk ops js (fun i => (L i).deps) = true) (hsz : line.length + js.length = ops.size)
    (prod : ∀ j ∈ js, ∀ s x iv W, (∀ k ∈ (L j).deps, k ∈ s) → PX w.drew s (fun i lo hi w x => (L i).P lo hi w (x i) x) x iv W → ∀ K : Act → World → Prop, (∀ v W', Below W.heap.size W W' → (L j).P W.heap.size W'.heap.size W' v (upd x j v) → K (act (upd x j v)) W') → wpOp P ops Q j K (act x) W)
    (rest : ∀ x iv W, PX w.drew js (fun i lo hi w x => (L i).P lo hi w (x i) x) x iv W → wpList P ops Q (line.filterMap fun i => ops[i]?) (act x) W) : (Code.region id ops true).wp P Q a0 w :=
  wp_region_gen hm js line (fun i => (L i).deps) act x0 ha (fun i lo hi w x => (L i).P lo hi w (x i) x) (fun i lo hi w w' x h hb => (L i).st lo hi w w' (x i) x h hb)
    (fun i lo hi w x x' e1 e2 h => by rw [← e1]; exact (L i).cg lo hi w (x i) x x' e2 h) ok okl okd hsz (fun j hj s x iv W hd hp K hK => prod j hj s x iv W hd hp K fun v W' hb h => hK v W' hb (by rw [upd_self]; exact h)) rest
end
end Go.Proofs.YtmjhgfkplolelaaGreat.Kit
/- A drawn region whose operations only read and make memory, ahead of others that may come in several orders: each way out is told by its lines. No Go function is spoken of. -/
namespace Go.Proofs.YtmjhgfkplolelaaGreat.Kit
open Go.RowKit
/-- At each state of the makers some are ready, and no other operation is, but at the states that are listed. -/
def makersOk2 (md : Region.Mode) (ops : Array Oper) (js : List Nat) (exits : List (List Nat)) : Bool :=
  (subs js).all fun t => t == js || exits.contains t || !closedB md ops t || (!(Region.ready md ops (mask ops.size t)).isEmpty && (Region.ready md ops (mask ops.size t)).all fun i => js.contains i && !t.contains i)
/-- At a state each that is ready opens one of the lines. -/
def altOk (md : Region.Mode) (ops : Array Oper) (t : List Nat) (lines : List (List Nat)) : Bool :=
  (Region.ready md ops (mask ops.size t)).all (fun j => lines.any fun l => match l with | i :: r => i == j && (ops[i]?).isSome && lineOk md ops (i :: t) r | [] => false) && !(Region.ready md ops (mask ops.size t)).isEmpty
section
variable {P : Program} {ops : Array Oper} {Q : Exit → Act → World → Prop} {md : Region.Mode}
theorem wpAny_alts (t : List Nat) (lines : List (List Nat)) (fuel : Nat) (a : Act) (w : World) (h : altOk md ops t lines = true) (hl : ∀ l ∈ lines, l.length ≤ fuel) (hw : ∀ l ∈ lines, wpList P ops Q (l.filterMap fun i => ops[i]?) a w) : wpAny P md ops Q fuel (mask ops.size t) a w := by
  simp only [altOk, Bool.and_eq_true, List.all_eq_true, List.any_eq_true] at h
  obtain ⟨h1, h2⟩ := h
  cases fuel with
  | zero =>
    exfalso
    cases hr : Region.ready md ops (mask ops.size t) with
    | nil => rw [hr] at h2; simp at h2
    | cons j r =>
      obtain ⟨l, hl1, hl2⟩ := h1 j (by rw [hr]; simp)
      cases l with
      | nil => simp at hl2
      | cons i r => have := hl _ hl1; simp at this
  | succ fuel =>
    refine wpAny_all rfl (by intro e; rw [e] at h2; simp at h2) fun j hj => ?_
    obtain ⟨l, hl1, hl2⟩ := h1 j hj
    cases l with
    | nil => simp at hl2
    | cons i r =>
      simp only [Bool.and_eq_true, beq_iff_eq] at hl2
      obtain ⟨⟨rfl, h3⟩, h4⟩ := hl2
      obtain ⟨o, ho⟩ := Option.isSome_iff_exists.1 h3
      rw [mask_set]
      have hw' : wpList P ops Q (o :: r.filterMap fun i => ops[i]?) a w := by simpa [ho] using hw _ hl1
      refine wpOp_mono (fun a w hq => wpAny_line r (i :: t) fuel a w h4 (by have := hl _ hl1; simpa using this) hq) ?_
      unfold wpOp
      rw [ho]
      exact hw'
theorem wpAny_makers2 (js : List Nat) (exits : List (List Nat)) (fuel : Nat) (act : (Nat → Value) → Act) (Inv : List Nat → (Nat → Value) → World → Prop) (ok : makersOk2 md ops js exits = true)
    (prod : ∀ j ∈ js, ∀ s x W, j ∈ Region.ready md ops (mask ops.size s) → ¬ j ∈ s → Inv s x W → ∀ K : Act → World → Prop, (∀ v W', Inv (j :: s) (upd x j v) W' → K (act (upd x j v)) W') → wpOp P ops Q j K (act x) W)
    (rest : ∀ s x W f, fuel ≤ f → (∀ i ∈ js, i ∈ s) → Inv s x W → wpAny P md ops Q f (mask ops.size js) (act x) W)
    (out : ∀ t ∈ exits, ∀ s x W f, fuel + (js.filter fun i => !t.contains i).length ≤ f → (∀ i, i ∈ s ↔ i ∈ t) → Inv s x W → wpAny P md ops Q f (mask ops.size t) (act x) W) :
    ∀ (m f : Nat) (s : List Nat) (x : Nat → Value) (W : World), (js.filter fun i => !s.contains i).length ≤ m → fuel ≤ f → (∀ i ∈ s, i ∈ js) → (∀ i ∈ s, ∀ o, ops[i]? = some o → ∀ e ∈ o.after, Region.binds md e = true → e.on ∈ s) → Inv s x W → wpAny P md ops Q (f + m) (mask ops.size s) (act x) W := by
  intro m
  induction m with
  | zero =>
    intro f s x W hc hf hs hcl hv
    have hall : ∀ i ∈ js, i ∈ s := fun i hi => by
      by_cases h : i ∈ s
      · exact h
      · have : i ∈ js.filter fun i => !s.contains i := List.mem_filter.2 ⟨hi, by simpa using h⟩
        rw [List.eq_nil_of_length_eq_zero (Nat.le_zero.1 hc)] at this
        cases this
    rw [mask_congr ops.size s js fun i => ⟨hs i, hall i⟩]
    exact rest s x W (f + 0) (by omega) hall hv
  | succ m ih =>
    intro f s x W hc hf hs hcl hv
    by_cases hall : ∀ i ∈ js, i ∈ s
    · rw [mask_congr ops.size s js fun i => ⟨hs i, hall i⟩]
      exact rest s x W _ (by omega) hall hv
    · have hst : ∀ i, i ∈ s ↔ i ∈ js.filter fun i => s.contains i := fun i => ⟨fun h => List.mem_filter.2 ⟨hs i h, by simpa using h⟩, fun h => by simpa using (List.mem_filter.1 h).2⟩
      have hmask : mask ops.size s = mask ops.size (js.filter fun i => s.contains i) := mask_congr _ _ _ hst
      by_cases hex : (js.filter fun i => s.contains i) ∈ exits
      · rw [hmask]
        refine out _ hex s x W _ ?_ hst hv
        have e : (js.filter fun i => !(js.filter fun i => s.contains i).contains i) = js.filter fun i => !s.contains i := by
          apply List.filter_congr
          intro i hi
          by_cases e2 : i ∈ s <;> simp [hi, e2]
        rw [e]
        omega
      have hk := List.all_eq_true.1 ok _ (filter_subs (fun i => s.contains i) js)
      have hne : ((js.filter fun i => s.contains i) == js) = false := by
        apply Bool.eq_false_iff.2
        intro e
        rw [beq_iff_eq] at e
        exact hall fun i hi => by
          rw [← e] at hi
          simpa using (List.mem_filter.1 hi).2
      have hexf : exits.contains (js.filter fun i => s.contains i) = false := by
        apply Bool.eq_false_iff.2
        intro e
        exact hex (by simpa using e)
      have hclo : closedB md ops (js.filter fun i => s.contains i) = true := by
        refine List.all_eq_true.2 fun i hi => ?_
        have his : i ∈ s := by simpa using (List.mem_filter.1 hi).2
        cases ho : ops[i]? with
        | none => rfl
        | some o =>
          simp only
          refine Array.all_eq_true_iff_forall_mem.2 fun e he => ?_
          cases hbi : Region.binds md e with
          | false => rfl
          | true =>
            have := hcl i his o ho e he hbi
            simp [this, hs _ this]
      rw [hne, hexf, hclo, Bool.false_or, Bool.false_or, Bool.not_true, Bool.false_or, Bool.and_eq_true] at hk
      obtain ⟨h1, h2⟩ := hk
      rw [← hmask] at h1 h2
      refine wpAny_all rfl (by intro e; rw [e] at h1; simp at h1) fun j hj => ?_
      have hj2 := List.all_eq_true.1 h2 j hj
      simp only [Bool.and_eq_true, List.contains_iff_mem, Bool.not_eq_true'] at hj2
      have hjs : j ∈ js := by simpa using hj2.1
      have hjn : ¬ j ∈ s := fun h => by
        have : j ∈ js.filter fun i => s.contains i := List.mem_filter.2 ⟨hjs, by simpa using h⟩
        have h3 := hj2.2
        simp [hjs, h] at h3
      rw [mask_set]
      refine prod j hjs s x W hj hjn hv _ fun v W' hv' => ih f (j :: s) _ W' ?_ hf (fun i hi => (List.mem_cons.1 hi).elim (fun e => e ▸ hjs) (hs i)) (fun i hi o ho e he hbi => List.mem_cons_of_mem _ ((List.mem_cons.1 hi).elim (fun q => by subst q; exact ready_dep hj ho ⟨e, he, rfl, hbi⟩) (fun q => hcl i q o ho e he hbi))) hv'
      have hlt : (js.filter fun i => !(j :: s).contains i).length < (js.filter fun i => !s.contains i).length := by
        have e : (js.filter fun i => !(j :: s).contains i) = (js.filter fun i => !s.contains i).filter fun i => !(i == j) := by
          rw [List.filter_filter]
          apply List.filter_congr
          intro i _
          by_cases e1 : i = j <;> by_cases e2 : i ∈ s <;> simp [e1, e2]
        rw [e, List.length_filter_lt_length_iff_exists]
        exact ⟨j, List.mem_filter.2 ⟨hjs, by simpa using hjn⟩, by simp⟩
      omega
/-- The lines of each way out fit in what is left. -/
def altsOk (md : Region.Mode) (ops : Array Oper) (js line : List Nat) (alts : List (List Nat × List (List Nat))) : Bool :=
  alts.all fun q => altOk md ops q.1 q.2 && q.2.all fun l => decide (l.length ≤ line.length + (js.filter fun i => !q.1.contains i).length)
/-- The region, whatever order is drawn, with the frame written out, and ways out ahead of the end. -/
theorem wp_region_alt {id : Nat} {w : World} {a0 : Act} (hm : P.follows .mixedOrders = true) (js line : List Nat) (alts : List (List Nat × List (List Nat))) (L : Nat → Mk) (act : (Nat → Value) → Act) (x0 : Nat → Value) (ha : a0 = act x0)
    (ok : makersOk2 .any ops js (alts.map (·.1)) = true) (okl : lineOk .any ops js line = true) (oka : altsOk .any ops js line alts = true) (okd : depsOk ops js (fun i => (L i).deps) = true) (hsz : line.length + js.length = ops.size)
    (prod : ∀ j ∈ js, ∀ s x iv W, (∀ k ∈ (L j).deps, k ∈ s) → PX w.drew s (fun i lo hi w x => (L i).P lo hi w (x i) x) x iv W → ∀ K : Act → World → Prop, (∀ v W', Below W.heap.size W W' → (L j).P W.heap.size W'.heap.size W' v (upd x j v) → K (act (upd x j v)) W') → wpOp P ops Q j K (act x) W)
    (rest : ∀ x iv W, PX w.drew js (fun i lo hi w x => (L i).P lo hi w (x i) x) x iv W → wpList P ops Q (line.filterMap fun i => ops[i]?) (act x) W)
    (out : ∀ q ∈ alts, ∀ l ∈ q.2, ∀ x iv W, PX w.drew q.1 (fun i lo hi w x => (L i).P lo hi w (x i) x) x iv W → wpList P ops Q (l.filterMap fun i => ops[i]?) (act x) W) : (Code.region id ops true).wp P Q a0 w := by
  have dep : ∀ j ∈ js, ∀ s, j ∈ Region.ready .any ops (mask ops.size s) → ∀ k ∈ (L j).deps, k ∈ s := by
    intro j hj s hr k hk
    have h := List.all_eq_true.1 okd j hj
    cases ho : ops[j]? with
    | none => rw [ho] at h; cases h
    | some o =>
      rw [ho] at h
      simp only [List.all_eq_true, Array.any_eq_true] at h
      obtain ⟨i, hi, h2⟩ := h k hk
      simp only [Bool.and_eq_true, beq_iff_eq] at h2
      exact ready_dep hr ho ⟨o.after[i], Array.getElem_mem hi, h2.1, h2.2⟩
  subst ha
  refine wp_region_any hm ?_
  have h := wpAny_makers2 (P := P) (Q := Q) (md := .any) js (alts.map (·.1)) line.length act (fun s x W => (∀ i ∈ s, ∀ k ∈ (L i).deps, k ∈ s) ∧ ∃ iv, PX w.drew s (fun i lo hi w x => (L i).P lo hi w (x i) x) x iv W) ok ?_ ?_ ?_ js.length line.length [] x0 w.drew (List.length_filter_le _ _) (Nat.le_refl _) (fun i hi => by cases hi) (fun i hi => by cases hi) ⟨(fun i hi => by cases hi), fun _ => (0, 0), ⟨Below.refl _ _, (fun i hi => by cases hi), (fun i hi => by cases hi), (fun i hi => by cases hi)⟩⟩
  · rw [hsz, mask_nil] at h
    exact h
  · intro j hj s x W hr hns hI K hK
    obtain ⟨hcl, iv2, hp⟩ := hI
    have hd := dep j hj s hr
    refine prod j hj s x iv2 W hd hp K fun v W' hb hpo => hK v W' ⟨fun i hi k hk => ?_, _, hp.add (fun i => (L i).deps) (fun i lo hi w w' x h hb => (L i).st lo hi w w' (x i) x h hb) (fun i lo hi w x x' e1 e2 h => by rw [← e1]; exact (L i).cg lo hi w (x i) x x' e2 h) hcl hns hb (by rw [upd_self]; exact hpo)⟩
    rcases List.mem_cons.1 hi with rfl | hi
    · exact List.mem_cons_of_mem _ (hd k hk)
    · exact List.mem_cons_of_mem _ (hcl i hi k hk)
  · intro s x W f hf hs hI
    obtain ⟨-, iv2, hp⟩ := hI
    exact wpAny_line line js f (act x) W okl hf (rest x iv2 W (hp.of_mem hs))
  · intro t ht s x W f hf hst hI
    obtain ⟨-, iv2, hp⟩ := hI
    obtain ⟨q, hq, rfl⟩ := List.mem_map.1 ht
    have h1 := List.all_eq_true.1 oka q hq
    simp only [Bool.and_eq_true, List.all_eq_true, decide_eq_true_eq] at h1
    exact wpAny_alts q.1 q.2 f (act x) W h1.1 (fun l hl => Nat.le_trans (h1.2 l hl) hf) fun l hl => out q hq l hl x iv2 W (hp.of_mem fun i hi => (hst i).2 hi)
end
end Go.Proofs.YtmjhgfkplolelaaGreat.Kit
/- Of the specification: l11Find by its contract. -/
namespace Go.Proofs.YtmjhgfkplolelaaGreat.Kit
open Go.RowKit
section
variable {P : Program} {ops : Array Oper} {Q : Exit → Act → World → Prop} {a : Act} {w : World}
theorem line2 {i j : Nat} {o1 o2 : Oper} (h1 : ops[i]? = some o1) (h2 : ops[j]? = some o2) (h : wpList P ops Q [o1, o2] a w) : wpList P ops Q ([i, j].filterMap fun k => ops[k]?) a w := by
  simpa [h1, h2] using h
theorem line3 {i j k : Nat} {o1 o2 o3 : Oper} (h1 : ops[i]? = some o1) (h2 : ops[j]? = some o2) (h3 : ops[k]? = some o3) (h : wpList P ops Q [o1, o2, o3] a w) : wpList P ops Q ([i, j, k].filterMap fun k => ops[k]?) a w := by
  simpa [h1, h2, h3] using h
end
def MkW (T : TypeId) (Z : Array Value) : Mk := .val [] (fun lo hi w v => v = .pointer (some ⟨lo, 0, none⟩) ∧ hi = lo + 1 ∧ AtC w lo T Z) (fun _ _ _ _ _ h hb => ⟨h.1, h.2.1, h.2.2.over hb⟩)
/-- The first of two. -/
def fstOf : Value → Value
  | .tuple xs => xs.getD 0 undef
  | u => u
/-- A block and a flag. -/
def MkBf (k l : Nat) (w0 : World) (d : Bool) (t : ByteArray) (ss : List Sl) (f : Bool) : Mk := .val [k, l] (fun _ _ _ v => ∃ a c, v = .tuple #[.agg #[.bool d, .slice a ss.length c, .string t], .bool f] ∧ RSl w0 (.slice a ss.length c) ss)
  (fun _ _ _ _ _ h _ => h)
def MkBv (k : Nat) (d : Bool) (t : ByteArray) (n : Nat) (f : Bool) : Mk := .val1 [k] k (by simp) (fun _ _ _ u v => u = v ∧ ∃ a c, v = .tuple #[.agg #[.bool d, .slice a n c, .string t], .bool f]) (fun _ _ _ _ _ _ h _ => h)
def MkBx (k : Nat) : Mk := .val1 [k] k (by simp) (fun _ _ _ u v => v = fstOf u) (fun _ _ _ _ _ _ h _ => h)


end Go.Proofs.YtmjhgfkplolelaaGreat.Kit
namespace Go.Proofs.YtmjhgfkplolelaaGreat
open Go.RowKit Kit
theorem blkAt_len {xs ys : List Bool} {is : List Ino} {bs : List Blk} (hB : Big 1048576 xs ys is bs) (x : Int) : (blkAt bs x).2.1.length ≤ 1048576 := by
  unfold blkAt
  split
  · by_cases h : (x - 1).toNat < bs.length
    · rw [List.getD_eq_getElem?_getD, List.getElem?_eq_getElem h]
      exact (hB.s _ h).1
    · rw [List.getD_eq_getElem?_getD, List.getElem?_eq_none (by omega)]
      exact Nat.zero_le _
  · exact Nat.zero_le _
set_option maxRecDepth 100000 in
set_option maxHeartbeats 6400000 in
theorem find_any (x : Int) (nm : ByteArray) (dx dy iv bv : Value) (xs ys : List Bool) (is : List Ino) (bs : List Blk) (w : World) (h : DR w dx dy iv bv xs ys is bs) (hB : Big 1048576 xs ys is bs) (hne : ¬ nm = ⟨#[]⟩) :
    Calls Tryz.prog 51 #[.agg #[dx, dy, iv, bv], .int .i64 x, .string nm] w fun e w' => ∃ B s : Int, e = .returned (.tuple #[.int .i64 B, .int .i64 s, .int .i64 (findI (named is bs x) nm)]) ∧ Below w.heap.size w w' := by
  have H := hide h
  have HG := hide hB
  obtain ⟨a3, c3, rfl, -, hc⟩ := h.i
  have HC := hide hc
  clear h hc hB
  cases hb : inB x 1 is.length with
  | false =>
    have HX := hide hb
    have e0 : findI (named is bs x) nm = 0 := by unfold named; rw [kindAt_out hb]; rfl
    rw [e0]
    clear hb e0
    have HB : Hid (∀ A, Below w.heap.size w (w.alloc (.cells A 47))) := fun A => (Below.refl _ w).alloc (Nat.le_refl _) _
    go_enter Tryz.func51, Tryz.ntmps51
    go_wp2_with fail
    refine (l01In_any x 1 _ _).mono ?_
    rintro e w1 ⟨rfl, rfl⟩
    rw [HX.out]
    go_wp2
    go_ret3
    exact ⟨0, 0, rfl, HB.out _⟩
  | true =>
    have HX := hide hb
    obtain ⟨h1, h2⟩ := inB_true hb
    clear hb
    obtain ⟨j, rfl⟩ : ∃ j : Nat, x = (j : Int) + 1 := ⟨(x - 1).toNat, by omega⟩
    have hj : j < is.length := by omega
    obtain ⟨g, off, t, rfl, hg, k0, k1, k2, r1, r2, r3⟩ := HC.out j hj
    obtain ⟨t0, t1, t2⟩ := t
    simp only at r1 r2 r3 k0 k1 k2
    subst r1 r2
    have hps := HG.out.p j hj
    have hil : is.length ≤ 1048576 := HG.out.i
    have hnm : named is bs ((j : Int) + 1) = if is[j].1 = 2 then nmdP bs is[j].2.2 else [] := by unfold named; rw [(kindAt_in hj).1, (kindAt_in hj).2]
    rw [hnm]
    obtain ⟨RES, hRES⟩ : ∃ r, findI (if is[j].1 = 2 then nmdP bs is[j].2.2 else []) nm = r := ⟨_, rfl⟩
    rw [hRES]
    have HRES0 := hide hRES
    clear hnm hRES
    generalize is[j].1 = kd at *
    generalize is[j].2.1 = ln at *
    generalize is[j].2.2 = ps at *
    have HNE := hide (ne_size hne)
    clear hne
    have HR := hide r3
    obtain ⟨pa, pc, rfl, -⟩ := r3
    have HB : Hid (Below w.heap.size w (w.alloc (.cells #[dx, dy, .slice (some ⟨g, off, none⟩) is.length c3, bv] 47))) := (Below.refl _ w).alloc (Nat.le_refl _) _
    have n0 : (w.alloc (.cells #[dx, dy, .slice (some ⟨g, off, none⟩) is.length c3, bv] 47)).cell? ⟨g, off + j * 3, none⟩ = some (.int .i64 kd) := (HB.out.cell (p := ⟨g, off + j * 3, none⟩) hg).trans k0
    have n1 : (w.alloc (.cells #[dx, dy, .slice (some ⟨g, off, none⟩) is.length c3, bv] 47)).cell? ⟨g, off + j * 3 + 1, none⟩ = some (.int .i64 ln) := (HB.out.cell (p := ⟨g, off + j * 3 + 1, none⟩) hg).trans k1
    have n2 : (w.alloc (.cells #[dx, dy, .slice (some ⟨g, off, none⟩) is.length c3, bv] 47)).cell? ⟨g, off + j * 3 + 2, none⟩ = some (.slice pa ps.length pc) := (HB.out.cell (p := ⟨g, off + j * 3 + 2, none⟩) hg).trans k2
    have j0 : (0 : Int) ≤ (j : Int) := by omega
    have j1 : (j : Int) < (is.length : Int) := by omega
    clear k0 k1 k2
    go_enter Tryz.func51, Tryz.ntmps51
    go_wp2_with fail
    refine (l01In_any _ 1 _ _).mono ?_
    rintro e w1 ⟨rfl, rfl⟩
    rw [HX.out]
    by_cases hk : kd = 2
    · subst hk
      have HRES : Hid (findI (nmdP bs ps) nm = RES) := by have := HRES0.out; rw [if_pos rfl] at this; exact this
      clear HRES0
      have HW : Hid (∀ W, Below ((w.alloc (.cells #[dx, dy, .slice (some ⟨g, off, none⟩) is.length c3, bv] 47)).alloc (.cells #[.int .i64 2, .int .i64 ln, .slice pa ps.length pc] 81)).heap.size ((w.alloc (.cells #[dx, dy, .slice (some ⟨g, off, none⟩) is.length c3, bv] 47)).alloc (.cells #[.int .i64 2, .int .i64 ln, .slice pa ps.length pc] 81)) W → AtC W w.heap.size 47 #[dx, dy, .slice (some ⟨g, off, none⟩) is.length c3, bv] ∧ AtC W (w.heap.size + 1) 81 #[.int .i64 2, .int .i64 ln, .slice pa ps.length pc] ∧ Below w.heap.size w W ∧ RInts W (.slice pa ps.length pc) ps ∧ DR W dx dy (.slice (some ⟨g, off, none⟩) is.length c3) bv xs ys is bs) := fun W b => by
        have q2 := (AtC.new (w.alloc (.cells #[dx, dy, .slice (some ⟨g, off, none⟩) is.length c3, bv] 47)) 81 #[.int .i64 2, .int .i64 ln, .slice pa ps.length pc]).over b
        simp at q2
        have bb : Below w.heap.size w W := (((Below.refl _ w).alloc (Nat.le_refl _) _).alloc (by simp) _).trans (b.mono (by simp; omega))
        exact ⟨((AtC.new w 47 _).alloc _).over b, q2, bb, HR.out.below bb (Nat.le_refl _), H.out.below bb (Nat.le_refl _)⟩
      go_wp2
      go_loopw [10] (fun i wr => ∃ q : Nat, q ≤ ps.length ∧ i = .int .i64 q ∧ Hid (∀ s ∈ nmdP bs (ps.take q), ¬ s.1 = nm) ∧ Hid (Below ((w.alloc (.cells #[dx, dy, .slice (some ⟨g, off, none⟩) is.length c3, bv] 47)).alloc (.cells #[.int .i64 2, .int .i64 ln, .slice pa ps.length pc] 81)).heap.size ((w.alloc (.cells #[dx, dy, .slice (some ⟨g, off, none⟩) is.length c3, bv] 47)).alloc (.cells #[.int .i64 2, .int .i64 ln, .slice pa ps.length pc] 81)) wr)) (fun i _ => ps.length - (intOf i).toNat)
      case atStart => exact ⟨0, Nat.zero_le _, rfl, (fun s hs => by simp [nmdP] at hs), Below.refl _ _⟩
      case round =>
        obtain ⟨q, hq, rfl, HNO, HQ⟩ := hrel
        obtain ⟨A0, A1, -, -, -⟩ := HW.out wr HQ.out
        have y2 : wr.cell? ⟨w.heap.size + 1, 2, none⟩ = some (.slice pa ps.length pc) := A1.cell 2
        clear A0 A1
        by_cases hlt : q < ps.length
        · obtain ⟨A0, A1, -, rI, dR⟩ := HW.out wr HQ.out
          obtain ⟨pa', pc', e1, hcp⟩ := rI
          simp only [Value.slice.injEq, true_and] at e1
          obtain ⟨rfl, rfl⟩ := e1
          obtain ⟨gp, op, rfl, hgp, kp⟩ := hcp q hlt
          obtain ⟨Pn, hPn⟩ : ∃ Pn, ps[q] = Pn := ⟨_, rfl⟩
          rw [hPn] at kp
          have HPN := hide hPn
          have HD := hide dR
          have hbl : bs.length ≤ 1048576 := HG.out.b
          have CB := hide (fun (W : World) (hd : Below wr.heap.size wr W) => blk_any Pn dx dy (.slice (some ⟨g, off, none⟩) is.length c3) bv xs ys is bs wr W HD.out hd hbl)
          have hbn := blkAt_len HG.out Pn
          obtain ⟨⟨bd, bss, btx⟩, hBD⟩ : ∃ X, blkAt bs Pn = X := ⟨_, rfl⟩
          obtain ⟨F, hF⟩ : ∃ F, inB Pn 1 bs.length = F := ⟨_, rfl⟩
          rw [hBD, hF] at CB
          rw [hBD] at hbn
          have HBD := hide hBD
          have HFF := hide hF
          have q0 : (0 : Int) ≤ (q : Int) := by omega
          have q1 : (q : Int) < (ps.length : Int) := by omega
          have HC2 : Hid (∀ W, Below wr.drew.heap.size wr.drew W → AtC W w.heap.size 47 #[dx, dy, .slice (some ⟨g, off, none⟩) is.length c3, bv] ∧ AtC W (w.heap.size + 1) 81 #[.int .i64 2, .int .i64 ln, .slice (some ⟨gp, op, none⟩) ps.length pc] ∧ W.cell? ⟨gp, op + q, none⟩ = some (.int .i64 Pn) ∧ DR W dx dy (.slice (some ⟨g, off, none⟩) is.length c3) bv xs ys is bs) := fun W b => by
            have b2 := of_drew b
            exact ⟨A0.over b2, A1.over b2, (b2.cell (p := ⟨gp, op + q, none⟩) hgp).trans kp, HD.out.below b2 (Nat.le_refl _)⟩
          have HKP := hide kp
          clear hPn kp dR hcp hBD hF A0 A1
          go_wp2_with fail
          refine Exists.elim (p := fun QQ : Exit → Act → World → Prop => ∀ ex ac W, QQ ex ac W ↔ (ex = .normal ∧ ∃ (z6 : Value) (bw : Nat) (sa : Option Addr) (sc : Nat), ac = ⟨List.toArray ((Value.agg #[dx, dy, Value.slice (some { block := g, off := off }) is.length c3, bv]) :: (Value.int IntKind.i64 (↑j + 1)) :: (Value.string nm) :: (Value.pointer (some { block := w.heap.size, off := 0 })) :: (undef) :: (undef) :: (u6) :: (u7) :: (u8) :: (Value.pointer (some { block := w.heap.size + 1, off := 0 })) :: (Value.int IntKind.i64 ↑q) :: (.pointer (some ⟨bw, 0, none⟩)) :: (.bool F) :: (u13) :: (Value.int IntKind.i64 (↑j + 1)) :: (Value.pointer (some { block := w.heap.size, off := 2 })) :: (Value.slice (some { block := g, off := off }) is.length c3) :: (Value.int IntKind.i64 ↑is.length) :: (Value.bool true) :: (Value.bool false) :: (Value.bool false) :: (Value.pointer (some { block := w.heap.size, off := 2 })) :: (Value.slice (some { block := g, off := off }) is.length c3) :: (Value.int IntKind.i64 (↑j + 1)) :: (Value.int IntKind.i64 ↑j) :: (Value.pointer (some { block := g, off := off + j * 3 })) :: (Value.pointer (some { block := g, off := off + j * 3 })) :: (Value.int IntKind.i64 2) :: (Value.bool false) :: (Value.bool false) :: (Value.pointer (some { block := w.heap.size, off := 2 })) :: (Value.slice (some { block := g, off := off }) is.length c3) :: (Value.int IntKind.i64 (↑j + 1)) :: (Value.int IntKind.i64 ↑j) :: (Value.pointer (some { block := g, off := off + j * 3 })) :: (Value.agg #[Value.int IntKind.i64 2, Value.int IntKind.i64 ln, Value.slice (some { block := gp, off := op }) ps.length pc]) :: (Value.int IntKind.i64 ↑q) :: (Value.pointer (some { block := w.heap.size + 1, off := 2 })) :: (Value.slice (some { block := gp, off := op }) ps.length pc) :: (Value.int IntKind.i64 ↑ps.length) :: (Value.bool true) :: (u41) :: (u42) :: (z6) :: (.agg #[dx, dy, .slice (some ⟨g, off, none⟩) is.length c3, bv]) :: (.pointer (some ⟨w.heap.size + 1, 2, none⟩)) :: (.slice (some ⟨gp, op, none⟩) ps.length pc) :: (.int .i64 q) :: (.pointer (some ⟨gp, op + q, none⟩)) :: (.int .i64 Pn) :: (z6) :: (.agg #[.bool bd, .slice sa bss.length sc, .string btx]) :: (.bool F) :: (u53) :: (u54) :: (u55) :: (u56) :: (u57) :: (u58) :: (u59) :: (u60) :: (u61) :: (u62) :: (u63) :: (u64) :: (u65) :: (u66) :: (u67) :: (u68) :: (u69) :: (u70) :: (u71) :: (u72) :: (u73) :: (u74) :: (u75) :: (u76) :: []), []⟩ ∧ AtC W bw 101 #[.bool bd, .slice sa bss.length sc, .string btx] ∧ RSl wr (.slice sa bss.length sc) bss ∧ Below wr.heap.size wr W)) ⟨_, fun _ _ _ => Iff.rfl⟩ fun QQ hQQ => ?_
          have HQQ := hide hQQ
          clear hQQ
          refine Code.wp_mono (Q := QQ) ?_ ?_
          rotate_left
          · refine wp_region_alt (by kernel_rfl) [0, 1, 2, 3, 4, 5, 6, 7, 8, 9, 10] [11, 12] [([0, 1, 2, 3, 4, 5, 6, 7, 8, 10], [[9, 11, 12], [11, 9, 12]])] (fun i => match i with | 0 => .const [] (.agg #[dx, dy, .slice (some ⟨g, off, none⟩) is.length c3, bv]) | 1 => .const [] (.pointer (some ⟨w.heap.size + 1, 2, none⟩)) | 2 => .const [1] (.slice (some ⟨gp, op, none⟩) ps.length pc) | 3 => .const [] (.int .i64 q) | 4 => .const [2, 3] (.pointer (some ⟨gp, op + q, none⟩)) | 5 => .const [4] (.int .i64 Pn) | 6 => MkBf 0 5 wr bd btx bss F | 7 => MkBv 6 bd btx bss.length F | 8 => MkBx 7 | 9 => .const [7] (.bool F) | 10 => MkW 101 #[.bool false, .slice none 0 0, .string ⟨#[]⟩] | _ => .triv) (fun x => ⟨List.toArray ((Value.agg #[dx, dy, Value.slice (some { block := g, off := off }) is.length c3, bv]) :: (Value.int IntKind.i64 (↑j + 1)) :: (Value.string nm) :: (Value.pointer (some { block := w.heap.size, off := 0 })) :: (undef) :: (undef) :: (u6) :: (u7) :: (u8) :: (Value.pointer (some { block := w.heap.size + 1, off := 0 })) :: (Value.int IntKind.i64 ↑q) :: (x 10) :: (u12) :: (u13) :: (Value.int IntKind.i64 (↑j + 1)) :: (Value.pointer (some { block := w.heap.size, off := 2 })) :: (Value.slice (some { block := g, off := off }) is.length c3) :: (Value.int IntKind.i64 ↑is.length) :: (Value.bool true) :: (Value.bool false) :: (Value.bool false) :: (Value.pointer (some { block := w.heap.size, off := 2 })) :: (Value.slice (some { block := g, off := off }) is.length c3) :: (Value.int IntKind.i64 (↑j + 1)) :: (Value.int IntKind.i64 ↑j) :: (Value.pointer (some { block := g, off := off + j * 3 })) :: (Value.pointer (some { block := g, off := off + j * 3 })) :: (Value.int IntKind.i64 2) :: (Value.bool false) :: (Value.bool false) :: (Value.pointer (some { block := w.heap.size, off := 2 })) :: (Value.slice (some { block := g, off := off }) is.length c3) :: (Value.int IntKind.i64 (↑j + 1)) :: (Value.int IntKind.i64 ↑j) :: (Value.pointer (some { block := g, off := off + j * 3 })) :: (Value.agg #[Value.int IntKind.i64 2, Value.int IntKind.i64 ln, Value.slice (some { block := gp, off := op }) ps.length pc]) :: (Value.int IntKind.i64 ↑q) :: (Value.pointer (some { block := w.heap.size + 1, off := 2 })) :: (Value.slice (some { block := gp, off := op }) ps.length pc) :: (Value.int IntKind.i64 ↑ps.length) :: (Value.bool true) :: (u41) :: (u42) :: (x 7) :: (x 0) :: (x 1) :: (x 2) :: (x 3) :: (x 4) :: (x 5) :: (x 6) :: (x 8) :: (x 9) :: (u53) :: (u54) :: (u55) :: (u56) :: (u57) :: (u58) :: (u59) :: (u60) :: (u61) :: (u62) :: (u63) :: (u64) :: (u65) :: (u66) :: (u67) :: (u68) :: (u69) :: (u70) :: (u71) :: (u72) :: (u73) :: (u74) :: (u75) :: (u76) :: []), []⟩) (fun i => match i with | 0 => u44 | 1 => u45 | 2 => u46 | 3 => u47 | 4 => u48 | 5 => u49 | 6 => u50 | 7 => u43 | 8 => u51 | 9 => u52 | 10 => u11 | _ => undef) rfl (by kernel_rfl) (by kernel_rfl) (by kernel_rfl) (by kernel_rfl) rfl ?_ ?_ ?_
            · intro jo hj so x iw W hd hp K hK
              simp only [List.mem_cons, List.not_mem_nil, or_false] at hj
              rcases hj with rfl | rfl | rfl | rfl | rfl | rfl | rfl | rfl | rfl | rfl | rfl
              · refine wpOp_step (o := _) rfl fun K' hK' => ?_
                have HK := hide (fun (v : Value) (W' : World) h1 h2 => hK' _ _ (hK v W' h1 h2))
                simp only [upd, Nat.reduceEqDiff, if_true, if_false] at HK
                have k0 := (HC2.out W hp.bel).1
                have y0 : W.cell? ⟨w.heap.size, 0, none⟩ = some (dx) := k0.cell 0
                have y1 : W.cell? ⟨w.heap.size, 1, none⟩ = some (dy) := k0.cell 1
                have y2 : W.cell? ⟨w.heap.size, 2, none⟩ = some (.slice (some ⟨g, off, none⟩) is.length c3) := k0.cell 2
                have y3 : W.cell? ⟨w.heap.size, 3, none⟩ = some (bv) := k0.cell 3
                clear k0
                clear hK hK' hp hd
                go_simp
                exact HK.out _ _ (Below.refl _ _) rfl
              · refine wpOp_step (o := _) rfl fun K' hK' => ?_
                have HK := hide (fun (v : Value) (W' : World) h1 h2 => hK' _ _ (hK v W' h1 h2))
                simp only [upd, Nat.reduceEqDiff, if_true, if_false] at HK
                clear hK hK' hp hd
                go_simp
                exact HK.out _ _ (Below.refl _ _) rfl
              · refine wpOp_step (o := _) rfl fun K' hK' => ?_
                have HK := hide (fun (v : Value) (W' : World) h1 h2 => hK' _ _ (hK v W' h1 h2))
                simp only [upd, Nat.reduceEqDiff, if_true, if_false] at HK
                have e1 : x 1 = .pointer (some ⟨w.heap.size + 1, 2, none⟩) := hp.post 1 (hd 1 (show 1 ∈ [1] from by decide))
                have y0 : W.cell? ⟨w.heap.size + 1, 2, none⟩ = some (.slice (some ⟨gp, op, none⟩) ps.length pc) := (HC2.out W hp.bel).2.1.cell 2
                clear hK hK' hp hd
                simp only [e1] at HK ⊢
                go_simp
                exact HK.out _ _ (Below.refl _ _) rfl
              · refine wpOp_step (o := _) rfl fun K' hK' => ?_
                have HK := hide (fun (v : Value) (W' : World) h1 h2 => hK' _ _ (hK v W' h1 h2))
                simp only [upd, Nat.reduceEqDiff, if_true, if_false] at HK
                clear hK hK' hp hd
                go_simp
                exact HK.out _ _ (Below.refl _ _) rfl
              · refine wpOp_step (o := _) rfl fun K' hK' => ?_
                have HK := hide (fun (v : Value) (W' : World) h1 h2 => hK' _ _ (hK v W' h1 h2))
                simp only [upd, Nat.reduceEqDiff, if_true, if_false] at HK
                have e2 : x 2 = .slice (some ⟨gp, op, none⟩) ps.length pc := hp.post 2 (hd 2 (show 2 ∈ [2, 3] from by decide))
                have e3 : x 3 = .int .i64 q := hp.post 3 (hd 3 (show 3 ∈ [2, 3] from by decide))
                clear hK hK' hp hd
                simp only [e2, e3] at HK ⊢
                go_simp
                exact HK.out _ _ (Below.refl _ _) rfl
              · refine wpOp_step (o := _) rfl fun K' hK' => ?_
                have HK := hide (fun (v : Value) (W' : World) h1 h2 => hK' _ _ (hK v W' h1 h2))
                simp only [upd, Nat.reduceEqDiff, if_true, if_false] at HK
                have e4 : x 4 = .pointer (some ⟨gp, op + q, none⟩) := hp.post 4 (hd 4 (show 4 ∈ [4] from by decide))
                have y0 : W.cell? ⟨gp, op + q, none⟩ = some (.int .i64 Pn) := (HC2.out W hp.bel).2.2.1
                clear hK hK' hp hd
                simp only [e4] at HK ⊢
                go_simp
                exact HK.out _ _ (Below.refl _ _) rfl
              · refine wpOp_step (o := _) rfl fun K' hK' => ?_
                have HK := hide (fun (v : Value) (W' : World) h1 h2 => hK' _ _ (hK v W' h1 h2))
                simp only [upd, Nat.reduceEqDiff, if_true, if_false] at HK
                have e0 : x 0 = .agg #[dx, dy, .slice (some ⟨g, off, none⟩) is.length c3, bv] := hp.post 0 (hd 0 (show 0 ∈ [0, 5] from by decide))
                have e5 : x 5 = .int .i64 Pn := hp.post 5 (hd 5 (show 5 ∈ [0, 5] from by decide))
                have dr := of_drew hp.bel
                clear hK hK' hp hd
                simp only [e0, e5] at HK ⊢
                clear e0 e5
                go_simp
                refine (CB.out W dr).mono ?_
                rintro e w6 ⟨sv, rfl, R6, B6⟩
                obtain ⟨sa, sc, rfl, hR6⟩ := R6
                go_simp
                exact HK.out _ _ B6 ⟨sa, sc, rfl, sa, sc, rfl, hR6⟩
              · refine wpOp_step (o := _) rfl fun K' hK' => ?_
                have HK := hide (fun (v : Value) (W' : World) h1 h2 => hK' _ _ (hK v W' h1 h2))
                simp only [upd, Nat.reduceEqDiff, if_true, if_false] at HK
                have e6 : ∃ a c, x 6 = .tuple #[.agg #[.bool bd, .slice a bss.length c, .string btx], .bool F] ∧ RSl wr (.slice a bss.length c) bss := hp.post 6 (hd 6 (show 6 ∈ [6] from by decide))
                clear hK hK' hp hd
                obtain ⟨sa, sc, e6, -⟩ := e6
                have e6a := hide e6
                simp only [e6] at HK ⊢
                clear e6
                go_simp
                exact HK.out _ _ (Below.refl _ _) ⟨e6a.out, sa, sc, rfl⟩
              · refine wpOp_step (o := _) rfl fun K' hK' => ?_
                have HK := hide (fun (v : Value) (W' : World) h1 h2 => hK' _ _ (hK v W' h1 h2))
                simp only [upd, Nat.reduceEqDiff, if_true, if_false] at HK
                have e7 : x 6 = x 7 ∧ ∃ a c, x 7 = .tuple #[.agg #[.bool bd, .slice a bss.length c, .string btx], .bool F] := hp.post 7 (hd 7 (show 7 ∈ [7] from by decide))
                clear hK hK' hp hd
                obtain ⟨-, sa, sc, e7⟩ := e7
                have e7a : Hid (.agg #[.bool bd, .slice sa bss.length sc, .string btx] = fstOf (x 7)) := by rw [e7]; rfl
                simp only [e7] at HK ⊢
                clear e7
                go_simp
                exact HK.out _ _ (Below.refl _ _) e7a.out
              · refine wpOp_step (o := _) rfl fun K' hK' => ?_
                have HK := hide (fun (v : Value) (W' : World) h1 h2 => hK' _ _ (hK v W' h1 h2))
                simp only [upd, Nat.reduceEqDiff, if_true, if_false] at HK
                have e7 : x 6 = x 7 ∧ ∃ a c, x 7 = .tuple #[.agg #[.bool bd, .slice a bss.length c, .string btx], .bool F] := hp.post 7 (hd 7 (show 7 ∈ [7] from by decide))
                clear hK hK' hp hd
                obtain ⟨-, sa, sc, e7⟩ := e7
                simp only [e7] at HK ⊢
                clear e7
                go_simp
                exact HK.out _ _ (Below.refl _ _) rfl
              · refine wpOp_step (o := _) rfl fun K' hK' => ?_
                have HK := hide (fun (v : Value) (W' : World) h1 h2 => hK' _ _ (hK v W' h1 h2))
                simp only [upd, Nat.reduceEqDiff, if_true, if_false] at HK
                clear hK hK' hp hd
                go_simp
                exact HK.out _ _ ((Below.refl _ W).alloc (Nat.le_refl _) _) ⟨rfl, by simp, AtC.new W 101 _⟩
            · intro x iw W hp
              obtain ⟨e7, -⟩ := hp.post 7 (by decide)
              obtain ⟨sa, sc, e6, R6⟩ := hp.post 6 (by decide)
              have e8 : x 8 = fstOf (x 7) := hp.post 8 (by decide)
              obtain ⟨e10, z10, A10⟩ := hp.post 10 (by decide)
              have l10 := hp.lo 10 (by decide)
              have bel := of_drew hp.bel
              rw [← e7, e6] at e8
              rw [e6] at e7
              replace e8 : x 8 = .agg #[.bool bd, .slice sa bss.length sc, .string btx] := e8
              have e9 : x 9 = .bool F := hp.post 9 (by decide)
              have e0 : x 0 = .agg #[dx, dy, .slice (some ⟨g, off, none⟩) is.length c3, bv] := hp.post 0 (by decide)
              have e1 : x 1 = .pointer (some ⟨w.heap.size + 1, 2, none⟩) := hp.post 1 (by decide)
              have e2 : x 2 = .slice (some ⟨gp, op, none⟩) ps.length pc := hp.post 2 (by decide)
              have e3 : x 3 = .int .i64 q := hp.post 3 (by decide)
              have e4 : x 4 = .pointer (some ⟨gp, op + q, none⟩) := hp.post 4 (by decide)
              have e5 : x 5 = .int .i64 Pn := hp.post 5 (by decide)
              have y0 : W.cell? ⟨(iw 10).1, 0, none⟩ = some (.bool false) := A10.cell 0
              have f0 := A10.frozen 0
              have y1 : W.cell? ⟨(iw 10).1, 1, none⟩ = some (.slice none 0 0) := A10.cell 1
              have f1 := A10.frozen 1
              have y2 : W.cell? ⟨(iw 10).1, 2, none⟩ = some (.string ⟨#[]⟩) := A10.cell 2
              have f2 := A10.frozen 2
              have hb10 : wr.heap.size ≤ (iw 10).1 := l10.1
              have HM : Hid (AtC (((W.setCell ⟨(iw 10).1, 0, none⟩ (.bool bd)).setCell ⟨(iw 10).1, 1, none⟩ (.slice sa bss.length sc)).setCell ⟨(iw 10).1, 2, none⟩ (.string btx)) (iw 10).1 101 #[.bool bd, .slice sa bss.length sc, .string btx] ∧ RSl wr (.slice sa bss.length sc) bss ∧ Below wr.heap.size wr (((W.setCell ⟨(iw 10).1, 0, none⟩ (.bool bd)).setCell ⟨(iw 10).1, 1, none⟩ (.slice sa bss.length sc)).setCell ⟨(iw 10).1, 2, none⟩ (.string btx))) := by
                have s0 : AtC (W.setCell ⟨(iw 10).1, 0, none⟩ (.bool bd)) (iw 10).1 101 #[.bool bd, .slice none 0 0, .string ⟨#[]⟩] := A10.set 0 _
                have s1 : AtC ((W.setCell ⟨(iw 10).1, 0, none⟩ (.bool bd)).setCell ⟨(iw 10).1, 1, none⟩ (.slice sa bss.length sc)) (iw 10).1 101 #[.bool bd, .slice sa bss.length sc, .string ⟨#[]⟩] := s0.set 1 _
                exact ⟨s1.set 2 _, R6, ((bel.setCell hb10 _).setCell hb10 _).setCell hb10 _⟩
              clear hp l10 A10 bel hb10 z10
              generalize (iw 10).1 = bw at *
              simp only [e0, e1, e2, e3, e4, e5, e6, ← e7, e8, e9, e10]
              clear e0 e1 e2 e3 e4 e5 e6 e7 e8 e9 e10
              refine line2 rfl rfl ?_
              go_wp2
              exact (HQQ.out _ _ _).2 ⟨rfl, _, bw, sa, sc, rfl, HM.out.1, HM.out.2.1, HM.out.2.2⟩
            · intro qa hqa l hl x iw W hp
              simp only [List.mem_cons, List.not_mem_nil, or_false] at hqa
              subst hqa
              simp only [List.mem_cons, List.not_mem_nil, or_false] at hl
              obtain ⟨e7, -⟩ := hp.post 7 (by decide)
              obtain ⟨sa, sc, e6, R6⟩ := hp.post 6 (by decide)
              have e8 : x 8 = fstOf (x 7) := hp.post 8 (by decide)
              obtain ⟨e10, z10, A10⟩ := hp.post 10 (by decide)
              have l10 := hp.lo 10 (by decide)
              have bel := of_drew hp.bel
              rw [← e7, e6] at e8
              rw [e6] at e7
              replace e8 : x 8 = .agg #[.bool bd, .slice sa bss.length sc, .string btx] := e8
              have e0 : x 0 = .agg #[dx, dy, .slice (some ⟨g, off, none⟩) is.length c3, bv] := hp.post 0 (by decide)
              have e1 : x 1 = .pointer (some ⟨w.heap.size + 1, 2, none⟩) := hp.post 1 (by decide)
              have e2 : x 2 = .slice (some ⟨gp, op, none⟩) ps.length pc := hp.post 2 (by decide)
              have e3 : x 3 = .int .i64 q := hp.post 3 (by decide)
              have e4 : x 4 = .pointer (some ⟨gp, op + q, none⟩) := hp.post 4 (by decide)
              have e5 : x 5 = .int .i64 Pn := hp.post 5 (by decide)
              have y0 : W.cell? ⟨(iw 10).1, 0, none⟩ = some (.bool false) := A10.cell 0
              have f0 := A10.frozen 0
              have y1 : W.cell? ⟨(iw 10).1, 1, none⟩ = some (.slice none 0 0) := A10.cell 1
              have f1 := A10.frozen 1
              have y2 : W.cell? ⟨(iw 10).1, 2, none⟩ = some (.string ⟨#[]⟩) := A10.cell 2
              have f2 := A10.frozen 2
              have hb10 : wr.heap.size ≤ (iw 10).1 := l10.1
              have HM : Hid (AtC (((W.setCell ⟨(iw 10).1, 0, none⟩ (.bool bd)).setCell ⟨(iw 10).1, 1, none⟩ (.slice sa bss.length sc)).setCell ⟨(iw 10).1, 2, none⟩ (.string btx)) (iw 10).1 101 #[.bool bd, .slice sa bss.length sc, .string btx] ∧ RSl wr (.slice sa bss.length sc) bss ∧ Below wr.heap.size wr (((W.setCell ⟨(iw 10).1, 0, none⟩ (.bool bd)).setCell ⟨(iw 10).1, 1, none⟩ (.slice sa bss.length sc)).setCell ⟨(iw 10).1, 2, none⟩ (.string btx))) := by
                have s0 : AtC (W.setCell ⟨(iw 10).1, 0, none⟩ (.bool bd)) (iw 10).1 101 #[.bool bd, .slice none 0 0, .string ⟨#[]⟩] := A10.set 0 _
                have s1 : AtC ((W.setCell ⟨(iw 10).1, 0, none⟩ (.bool bd)).setCell ⟨(iw 10).1, 1, none⟩ (.slice sa bss.length sc)) (iw 10).1 101 #[.bool bd, .slice sa bss.length sc, .string ⟨#[]⟩] := s0.set 1 _
                exact ⟨s1.set 2 _, R6, ((bel.setCell hb10 _).setCell hb10 _).setCell hb10 _⟩
              clear hp l10 A10 bel hb10 z10
              generalize (iw 10).1 = bw at *
              simp only [e0, e1, e2, e3, e4, e5, e6, ← e7, e8, e10]
              clear e0 e1 e2 e3 e4 e5 e6 e7 e8 e10
              rcases hl with rfl | rfl
              · refine line3 rfl rfl rfl ?_
                go_wp2
                exact (HQQ.out _ _ _).2 ⟨rfl, _, bw, sa, sc, rfl, HM.out.1, HM.out.2.1, HM.out.2.2⟩
              · refine line3 rfl rfl rfl ?_
                go_wp2
                exact (HQQ.out _ _ _).2 ⟨rfl, _, bw, sa, sc, rfl, HM.out.1, HM.out.2.1, HM.out.2.2⟩
          intro ex ac W3 hq3
          obtain ⟨rfl, z6, bw, sa, sc, rfl, A3, R3, B3⟩ := (HQQ.out _ _ _).1 hq3
          clear hq3 HQQ
          have HN : Hid (∀ W, Below W3.heap.size W3 W → AtC W bw 101 #[.bool bd, .slice sa bss.length sc, .string btx] ∧ RSl W (.slice sa bss.length sc) bss ∧ W.cell? ⟨w.heap.size + 1, 2, none⟩ = some (.slice (some ⟨gp, op, none⟩) ps.length pc) ∧ W.cell? ⟨gp, op + q, none⟩ = some (.int .i64 Pn) ∧ Below w.heap.size w W ∧ Below ((w.alloc (.cells #[dx, dy, .slice (some ⟨g, off, none⟩) is.length c3, bv] 47)).alloc (.cells #[.int .i64 2, .int .i64 ln, .slice (some ⟨gp, op, none⟩) ps.length pc] 81)).heap.size ((w.alloc (.cells #[dx, dy, .slice (some ⟨g, off, none⟩) is.length c3, bv] 47)).alloc (.cells #[.int .i64 2, .int .i64 ln, .slice (some ⟨gp, op, none⟩) ps.length pc] 81)) W) := fun W b => by
            have b2 := B3.trans (b.mono B3.size)
            have b3 := HQ.out.trans (b2.mono HQ.out.size)
            obtain ⟨-, k2, k3, -⟩ := HW.out W b3
            exact ⟨A3.over b, R3.below b2 (Nat.le_refl _), k2.cell 2, (b2.cell (p := ⟨gp, op + q, none⟩) hgp).trans HKP.out, k3, b3⟩
          obtain ⟨d1, d2, -⟩ := HN.out _ (Below.refl _ _)
          have g0 : W3.cell? ⟨bw, 0, none⟩ = some (.bool bd) := d1.cell 0
          have g1 : W3.cell? ⟨bw, 1, none⟩ = some (.slice sa bss.length sc) := d1.cell 1
          have g2 : W3.cell? ⟨bw, 2, none⟩ = some (.string btx) := d1.cell 2
          have HD2 := hide d2
          clear d1 d2 A3 R3 B3 y2 CB HC2
          go_wp2_with fail
          refine (slot_any bd _ bss btx nm W3 HD2.out hbn).mono ?_
          rintro e w4 ⟨k, rfl, SL, B4⟩
          obtain ⟨d1, d2, d3, d4, d5, d6⟩ := HN.out w4 B4
          have g0 : w4.cell? ⟨bw, 0, none⟩ = some (.bool bd) := d1.cell 0
          have g1 : w4.cell? ⟨bw, 1, none⟩ = some (.slice sa bss.length sc) := d1.cell 1
          have HE := hide (And.intro d5 d6)
          clear d1 d5 d6 HN B4 HD2 HQ
          have HTK := hide (nmdP_take (bs := bs) hlt)
          have HSPL := hide (nmdP_split (bs := bs) hlt)
          rw [HPN.out, HBD.out] at HTK HSPL
          cases F with
          | false =>
            have HN2 : Hid (∀ s ∈ nmdP bs (ps.take (q + 1)), ¬ s.1 = nm) := by
              have hb0 := blkAt_no HFF.out
              rw [HBD.out] at hb0
              show ∀ s ∈ nmdP bs (ps.take (q + 1)), ¬ s.1 = nm
              rw [HTK.out, show nmd (bd, bss, btx) = [] from by simp only [Prod.mk.injEq] at hb0; rw [hb0.1]; rfl, List.append_nil]
              exact HNO.out
            go_wp2
            go_roundw
            case rel => exact ⟨q + 1, by omega, by go_num, HN2.out, HE.out.2⟩
            case measure => simp [intOf]; omega
          | true =>
            cases bd with
            | false =>
              have HN2 : Hid (∀ s ∈ nmdP bs (ps.take (q + 1)), ¬ s.1 = nm) := by
                show ∀ s ∈ nmdP bs (ps.take (q + 1)), ¬ s.1 = nm
                rw [HTK.out, show nmd (false, bss, btx) = [] from rfl, List.append_nil]
                exact HNO.out
              go_wp2
              go_roundw
              case rel => exact ⟨q + 1, by omega, by go_num, HN2.out, HE.out.2⟩
              case measure => simp [intOf]; omega
            | true =>
              rcases SL with ⟨rfl, hno⟩ | ⟨jj, hjj, rfl, hnm, hsz, hfirst⟩
              · have HN2 : Hid (∀ s ∈ nmdP bs (ps.take (q + 1)), ¬ s.1 = nm) := by
                  show ∀ s ∈ nmdP bs (ps.take (q + 1)), ¬ s.1 = nm
                  rw [HTK.out, show nmd (true, bss, btx) = nmdS bss from rfl]
                  intro s hs
                  rcases List.mem_append.1 hs with h | h
                  · exact HNO.out s h
                  · exact nmdS_none (hno HNE.out) s h
                clear hno
                go_wp2
                go_roundw
                case rel => exact ⟨q + 1, by omega, by go_num, HN2.out, HE.out.2⟩
                case measure => simp [intOf]; omega
              · obtain ⟨sa', sc', e1, -, hcs⟩ := d2
                simp only [Value.slice.injEq, true_and] at e1
                obtain ⟨rfl, rfl⟩ := e1
                obtain ⟨gs, os, rfl, -, -, ks⟩ := hcs jj hjj
                have HFI : Hid (bss[jj].2 = RES) := by
                  show bss[jj].2 = RES
                  rw [← HRES.out, HSPL.out, findI_append HNO.out, show nmd (true, bss, btx) = nmdS bss from rfl]
                  exact (findI_first hjj hnm hsz hfirst).symm
                clear hfirst
                generalize bss[jj].2 = ino at *
                have t0 : (0 : Int) ≤ (jj : Int) := by omega
                have t1 : (jj : Int) < (bss.length : Int) := by omega
                clear hcs hnm hsz
                go_wp2
                go_quiet (fail)
                go_wp2
                go_ret3
                exact ⟨_, _, by rw [HFI.out]; rfl, below_drewN HE.out.1 _⟩
        · have HF := hide (HW.out wr HQ.out).2.2.1
          have HNF : Hid (findI (nmdP bs ps) nm = 0) := by
            have := HNO.out
            rw [List.take_of_length_le (by omega)] at this
            exact findI_none this
          clear HQ
          go_wp2
          go_ret3
          exact ⟨0, 0, by rw [← HRES.out, HNF.out]; rfl, HF.out⟩
    · have hk2 : decide (kd = 2) = false := decide_eq_false hk
      have HR0 : Hid (RES = 0) := by have := HRES0.out; rw [if_neg hk] at this; exact this.symm
      clear HRES0
      go_wp2
      go_ret3
      exact ⟨0, 0, by rw [HR0.out]; rfl, HB.out⟩
end Go.Proofs.YtmjhgfkplolelaaGreat
/- What is told of the operations of a region that takes the results of a call apart, one of them into a new variable. No Go function is spoken of. -/
namespace Go.Proofs.YtmjhgfkplolelaaGreat.Kit
open Go.RowKit
/-- The second of several. -/
def sndOf : Value → Value
  | .tuple xs => xs.getD 1 undef
  | u => u
/-- The third of several. -/
def thdOf : Value → Value
  | .tuple xs => xs.getD 2 undef
  | u => u
/-- Two results, of which something is told. -/
def MkT2 (ds : List Nat) (R : Nat → Nat → World → Value → Value → Prop) (hst : ∀ lo hi w w' a r, R lo hi w a r → Below w.heap.size w w' → R lo hi w' a r) : Mk := .val ds (fun lo hi w v => ∃ a r, v = .tuple #[a, r] ∧ R lo hi w a r)
  (fun lo hi w w' _ h hb => by obtain ⟨a, r, h1, h2⟩ := h; exact ⟨a, r, h1, hst lo hi w w' a r h2 hb⟩)
/-- Three results. -/
def MkT3 (ds : List Nat) (R : Nat → World → Value → Value → Value → Prop) (hst : ∀ lo w w' a r q, R lo w a r q → Below w.heap.size w w' → R lo w' a r q) : Mk := .val ds (fun lo _ w v => ∃ a r q, v = .tuple #[a, r, q] ∧ R lo w a r q)
  (fun lo _ w w' _ h hb => by obtain ⟨a, r, q, h1, h2⟩ := h; exact ⟨a, r, q, h1, hst lo w w' a r q h2 hb⟩)
/-- The same, in another place. -/
def MkMv (k : Nat) : Mk := .val1 [k] k (by simp) (fun _ _ _ u v => u = v ∧ ∃ a r, v = .tuple #[a, r]) (fun _ _ _ _ _ _ h _ => h)
def MkMv3 (k : Nat) : Mk := .val1 [k] k (by simp) (fun _ _ _ u v => u = v ∧ ∃ a r q, v = .tuple #[a, r, q]) (fun _ _ _ _ _ _ h _ => h)
def MkFs (k : Nat) : Mk := .val1 [k] k (by simp) (fun _ _ _ u v => v = fstOf u) (fun _ _ _ _ _ _ h _ => h)
def MkSd (k : Nat) : Mk := .val1 [k] k (by simp) (fun _ _ _ u v => v = sndOf u) (fun _ _ _ _ _ _ h _ => h)
def MkTd (k : Nat) : Mk := .val1 [k] k (by simp) (fun _ _ _ u v => v = thdOf u) (fun _ _ _ _ _ _ h _ => h)
end Go.Proofs.YtmjhgfkplolelaaGreat.Kit
/- The states of a region's operations that are closed under what they wait for, counted without the others. No Go function is spoken of. -/
namespace Go.Proofs.YtmjhgfkplolelaaGreat.Kit
open Go.RowKit
/-- One of t waits for x. -/
def needs (md : Region.Mode) (ops : Array Oper) (t : List Nat) (x : Nat) : Bool := t.any fun i => match ops[i]? with | some o => o.after.any fun e => Region.binds md e && e.on == x | none => false
def ideals (md : Region.Mode) (ops : Array Oper) : List Nat → List (List Nat)
  | [] => [[]]
  | x :: r => (ideals md ops r).filter (fun t => !needs md ops t x) ++ (ideals md ops r).map fun t => x :: t
theorem subs_sub : ∀ (js t : List Nat), t ∈ subs js → ∀ i ∈ t, i ∈ js
  | [], t, h, i, hi => by simp [subs] at h; subst h; simp at hi
  | x :: r, t, h, i, hi => by
    rw [subs, List.mem_append] at h
    rcases h with h | h
    · exact List.mem_cons_of_mem _ (subs_sub r t h i hi)
    · obtain ⟨t', h', rfl⟩ := List.mem_map.mp h
      rcases List.mem_cons.mp hi with rfl | hi
      · exact List.mem_cons_self
      · exact List.mem_cons_of_mem _ (subs_sub r t' h' i hi)
theorem mem_ideals (md : Region.Mode) (ops : Array Oper) : ∀ (js : List Nat), js.Nodup → ∀ t ∈ subs js, (∀ i ∈ t, ∀ o, ops[i]? = some o → ∀ e ∈ o.after, Region.binds md e = true → e.on ∈ js → e.on ∈ t) → t ∈ ideals md ops js
  | [], _, t, ht, _ => by simpa [subs, ideals] using ht
  | x :: r, hn, t, ht, hc => by
    obtain ⟨hx, hr⟩ := List.nodup_cons.mp hn
    rw [subs, List.mem_append] at ht
    rw [ideals, List.mem_append]
    rcases ht with ht | ht
    · left
      refine List.mem_filter.mpr ⟨mem_ideals md ops r hr t ht fun i hi o ho e he hb hj => hc i hi o ho e he hb (List.mem_cons_of_mem _ hj), ?_⟩
      have hxt : x ∉ t := fun e => hx (subs_sub r t ht x e)
      simp only [Bool.not_eq_true', needs, List.any_eq_false]
      intro i hi
      cases ho : ops[i]? with
      | none => simp
      | some o =>
        intro hh
        obtain ⟨k, hk, hh⟩ := Array.any_eq_true.mp hh
        simp only [Bool.and_eq_true, beq_iff_eq] at hh
        obtain ⟨hb, he⟩ := hh
        exact hxt (he ▸ hc i hi o ho o.after[k] (Array.getElem_mem hk) hb (by rw [he]; exact List.mem_cons_self))
    · right
      obtain ⟨t', h', rfl⟩ := List.mem_map.mp ht
      refine List.mem_map.mpr ⟨t', mem_ideals md ops r hr t' h' fun i hi o ho e he hb hj => ?_, rfl⟩
      rcases List.mem_cons.mp (hc i (List.mem_cons_of_mem _ hi) o ho e he hb (List.mem_cons_of_mem _ hj)) with q | q
      · exact absurd (q ▸ hj) hx
      · exact q
def makersOkI (md : Region.Mode) (ops : Array Oper) (js : List Nat) (exits : List (List Nat)) : Bool :=
  (ideals md ops js).all fun t => t == js || exits.contains t || !closedB md ops t || (!(Region.ready md ops (mask ops.size t)).isEmpty && (Region.ready md ops (mask ops.size t)).all fun i => js.contains i && !t.contains i)
theorem makersOk2_of {md : Region.Mode} {ops : Array Oper} {js : List Nat} {exits : List (List Nat)} (hn : decide js.Nodup = true) (h : makersOkI md ops js exits = true) : makersOk2 md ops js exits = true := by
  unfold makersOk2
  refine List.all_eq_true.mpr fun t ht => ?_
  by_cases hc : closedB md ops t = true
  · refine List.all_eq_true.mp h t (mem_ideals md ops js (of_decide_eq_true hn) t ht fun i hi o ho e he hb _ => ?_)
    have := List.all_eq_true.mp hc i hi
    rw [ho] at this
    obtain ⟨k, hk, rfl⟩ := Array.mem_iff_getElem.mp he
    have := Array.all_eq_true.mp this k hk
    rw [hb] at this
    simpa using this
  · simp [hc]
theorem makersOk_of {md : Region.Mode} {ops : Array Oper} {js : List Nat} (hn : decide js.Nodup = true) (h : makersOkI md ops js [] = true) : makersOk md ops js = true := by
  have := makersOk2_of hn h
  unfold makersOk2 at this
  unfold makersOk
  simpa using this
end Go.Proofs.YtmjhgfkplolelaaGreat.Kit
/- Small facts of texts and appends. No Go function is spoken of. -/
namespace Go.Proofs.YtmjhgfkplolelaaGreat.Kit
open Go.RowKit
/-- Texts as cells. -/
def stc (l : List ByteArray) : List Value := l.map fun z => Value.string z
theorem stc_length (l : List ByteArray) : (stc l).length = l.length := by simp [stc]
theorem stc_append (a b : List ByteArray) : stc (a ++ b) = stc a ++ stc b := by simp [stc]
theorem step_append_one {P : Program} (W : World) {ops : Array Oper} {o : Oper} {a : Act} {K : Act → World → Prop} {Q : Exit → Act → World → Prop} {E : Prop} (hgd : o.guard = none) (s x : Operand) (t : TypeId)
    (ho : o.op = .call { callee := .builtin .append, args := #[s, x], argTypes := #[t, t] }) (base : Nat) (e : TypeId) (ht : P.underlying t = some (.slice e)) (z : Value) (bytes : Nat)
    (hi : (P.info? e).map (fun i => (i.zero, i.size, i.bytes)) = some (some z, 1, bytes)) (hzc : z.cells.size = 1) (hby : bytes ≤ 640) (v : Value) (l : List Value) (hs : a.eval s = v) (hown : ROwns W base e v l) (hbase : base ≤ W.heap.size)
    (g : Nat) (y : Value) (hx : a.eval x = .slice (some ⟨g, 0, none⟩) 1 1) (hc : W.cell? ⟨g, 0, none⟩ = some y) (h1 : y.oneCell' = true) (hl : l.length ≤ 100000000000)
    (h : ∀ v' w', ROwns w' base e v' (l ++ [y]) → W.grownBy w' v.ownBlock → (∀ k, v'.ownBlock = some k → v.ownBlock = some k ∨ W.heap.size ≤ k) → K (a.put o.dst v') w') :
    if Region.wanted o (yielded ops a.tmps) = true then Oper.wp P o a W K Q else E := by
  obtain ⟨i0, hi, hz0, hz1, hz2⟩ := info_parts hi
  refine step_append_lies _ hgd s x t ho base e i0 z 1 bytes ht hi hz0 hz1 hz2 hzc (by decide) v l.length l hs hown ⟨g, 0, none⟩ 1 1 [y] hx rfl ?_ (by simpa using h1) (by decide) ?_ ?_ hbase W.heap.size rfl ?_
  · intro j u hj
    cases j with
    | zero => simp only [List.getElem?_cons_zero, Option.some.injEq] at hj; subst hj; simpa [Addr.add] using hc
    | succ j => simp at hj
  · unfold maxLen; omega
  · have : (l.length + 1) * bytes ≤ 100000000001 * 640 := Nat.mul_le_mul (by omega) hby
    omega
  · intro g' cap w' hown' hgrow hat _
    refine h _ w' ?_ hgrow fun k hk => ?_
    · unfold ROwns
      rw [List.length_append]
      exact hown'
    · simp only [Value.ownBlock, Option.some.injEq] at hk
      subst hk
      rcases hat with hat | hat
      · exact .inl hat
      · exact .inr (by omega)
/-- What l11Block answers: a block that is there, or none. -/
def BlkR (w0 : World) (bd : Bool) (btx : ByteArray) (bss : List Sl) (F : Bool) (_ _ : Nat) (_ : World) (a r : Value) : Prop := ∃ (sa : Option Addr) (sc : Nat), a = .agg #[.bool bd, .slice sa bss.length sc, .string btx] ∧ r = .bool F ∧ RSl w0 (.slice sa bss.length sc) bss
theorem BlkR.below {w0 : World} {bd : Bool} {btx : ByteArray} {bss : List Sl} {F : Bool} (lo hi : Nat) (w w' : World) (a r : Value) (h : BlkR w0 bd btx bss F lo hi w a r) (_ : Below w.heap.size w w') : BlkR w0 bd btx bss F lo hi w' a r := h
theorem beq_empty {a : ByteArray} (h : ¬ a = ⟨#[]⟩) : (a.toList == ([] : List UInt8)) = false := by
  have := beq_false (b := ⟨#[]⟩) h
  rwa [show (⟨#[]⟩ : ByteArray).toList = [] from by rw [ByteArray.toList_eq]] at this
theorem blkAt_in {bs : List Blk} {x : Int} (h : inB x 1 bs.length = true) : ∃ (jb : Nat) (hb : jb < bs.length), x = (jb : Int) + 1 ∧ blkAt bs x = bs[jb] := by
  obtain ⟨h1, h2⟩ := inB_true h
  refine ⟨(x - 1).toNat, by omega, by omega, ?_⟩
  unfold blkAt
  rw [h, if_pos rfl]
  rw [List.getD_eq_getElem?_getD, List.getElem?_eq_getElem (show (x - 1).toNat < bs.length by omega)]
  rfl
end Go.Proofs.YtmjhgfkplolelaaGreat.Kit
/- Of the specification: NamesOf by its contract: some names of its own. -/
namespace Go.Proofs.YtmjhgfkplolelaaGreat.Kit
open Go.RowKit
/-- Names under way: a list of its own, apart from the boxes. -/
structure NmR (w wr : World) (D X : Array Value) (bw : Nat) (lv : Value) (l : List ByteArray) : Prop where
  o : ROwns wr (w.heap.size + 1) 9 lv (stc l)
  n : ∀ k, lv.ownBlock = some k → k ≠ w.heap.size + 1 + 1 ∧ k ≠ bw
  b : Below w.heap.size w wr
  d : AtC wr w.heap.size 47 D
  x : AtC wr (w.heap.size + 1 + 1) 81 X
theorem NmR.below {w wr wr' : World} {D X : Array Value} {bw : Nat} {lv : Value} {l : List ByteArray} (h : NmR w wr D X bw lv l) (hb : Below wr.heap.size wr wr') : NmR w wr' D X bw lv l :=
  ⟨h.o.below hb (Nat.le_refl _), h.n, h.b.trans (hb.mono h.b.size), h.d.over hb, h.x.over hb⟩
theorem NmR.app {w wr wr' : World} {D X : Array Value} {bw : Nat} {lv lv' : Value} {l l' : List ByteArray} (h : NmR w wr D X bw lv l) (ho : ROwns wr' (w.heap.size + 1) 9 lv' (stc l')) (hg : wr.grownBy wr' lv.ownBlock) (hv : ∀ k, lv'.ownBlock = some k → lv.ownBlock = some k ∨ wr.heap.size ≤ k) (hbw : bw < wr.heap.size) : NmR w wr' D X bw lv' l' :=
  ⟨ho, fun k hk => (hv k hk).elim (h.n k) (fun e => by have := h.x.lt; omega), h.b.grown hg h.b.size (fun k hk => by have := (h.o.lt k hk).1; omega), h.d.grown hg (fun e => by have := (h.o.lt _ e).1; omega), h.x.grown hg (fun e => (h.n _ e).1 rfl)⟩
theorem NmR.turn {w wr : World} {D X : Array Value} {bw bw' : Nat} {lv : Value} {l : List ByteArray} (h : NmR w wr D X bw lv l) (hb : ∀ k, lv.ownBlock = some k → k ≠ bw') : NmR w wr D X bw' lv l := ⟨h.o, fun k hk => ⟨(h.n k hk).1, hb k hk⟩, h.b, h.d, h.x⟩
theorem blkAt_four' {bs : List Blk} (hk : ∀ q ∈ bs, q.2.1.length ≤ 4) (x : Int) : (blkAt bs x).2.1.length ≤ 4 := by
  cases h : inB x 1 bs.length with
  | false => unfold blkAt; rw [h]; simp
  | true =>
    obtain ⟨jb, hb, -, e⟩ := blkAt_in h
    rw [e]
    exact hk _ (List.getElem_mem hb)
end Go.Proofs.YtmjhgfkplolelaaGreat.Kit
namespace Go.Proofs.YtmjhgfkplolelaaGreat
open Go.RowKit Kit
theorem Tryz.w96 : Tryz.prog.underlying 32 = some (.slice 9) := by kernel_rfl
theorem Tryz.w9 : (Tryz.prog.info? 9).map (fun i => (i.zero, i.size, i.bytes)) = some (some (.string ByteArray.empty), 1, 16) := by kernel_rfl
set_option maxRecDepth 100000 in
set_option maxHeartbeats 6400000 in
theorem names_any (x : Int) (dx dy iv bv : Value) (xs ys : List Bool) (is : List Ino) (bs : List Blk) (w : World) (h : DR w dx dy iv bv xs ys is bs) (hi : is.length = 8) (hbl : bs.length ≤ 1048576) (hp : ∀ q ∈ is, q.2.2.length ≤ 2) (hk : ∀ q ∈ bs, q.2.1.length ≤ 4) :
    Calls Tryz.prog 50 #[.agg #[dx, dy, iv, bv], .int .i64 x] w fun e w' => ∃ lv, e = .returned lv ∧ ROwns w' w.heap.size 9 lv (stc ((named is bs x).map (·.1))) ∧ Below w.heap.size w w' := by
  obtain ⟨a1, c1, a2, c2, a3, c3, a4, c4, rfl, rfl, rfl, rfl⟩ := h.form
  have HH := hide h
  have HW : Hid (∀ W, Below ((w.alloc (.cells #[.slice a1 xs.length c1, .slice a2 ys.length c2, .slice a3 is.length c3, .slice a4 bs.length c4] 47)).alloc (.cells #[] 9)).heap.size ((w.alloc (.cells #[.slice a1 xs.length c1, .slice a2 ys.length c2, .slice a3 is.length c3, .slice a4 bs.length c4] 47)).alloc (.cells #[] 9)) W → Below w.heap.size w W ∧ AtC W w.heap.size 47 #[.slice a1 xs.length c1, .slice a2 ys.length c2, .slice a3 is.length c3, .slice a4 bs.length c4] ∧ w.heap.size + 1 + 1 ≤ W.heap.size) := fun W bb => by
    have k1 := ((AtC.new w 47 #[.slice a1 xs.length c1, .slice a2 ys.length c2, .slice a3 is.length c3, .slice a4 bs.length c4]).over ((Below.refl _ (w.alloc (.cells #[.slice a1 xs.length c1, .slice a2 ys.length c2, .slice a3 is.length c3, .slice a4 bs.length c4] 47))).alloc (Nat.le_refl _) (.cells #[] 9))).over bb
    have sz := bb.size
    simp at sz
    exact ⟨(((Below.refl _ w).alloc (Nat.le_refl _) _).alloc (by simp) _).trans (bb.mono (by simp; omega)), k1, sz⟩
  have HL0 : Hid (ROwns ((w.alloc (.cells #[.slice a1 xs.length c1, .slice a2 ys.length c2, .slice a3 is.length c3, .slice a4 bs.length c4] 47)).alloc (.cells #[] 9)) w.heap.size 9 (.slice (some ⟨w.heap.size + 1, 0, none⟩) 0 0) (stc [])) := by
    have l0 := ROwns.lit0 (w.alloc (.cells #[.slice a1 xs.length c1, .slice a2 ys.length c2, .slice a3 is.length c3, .slice a4 bs.length c4] 47)) w.heap.size 9 (by simp)
    have e0 : (w.alloc (.cells #[.slice a1 xs.length c1, .slice a2 ys.length c2, .slice a3 is.length c3, .slice a4 bs.length c4] 47)).heap.size = w.heap.size + 1 := by simp
    rw [e0] at l0
    exact l0
  have x2 : ((w.alloc (.cells #[.slice a1 xs.length c1, .slice a2 ys.length c2, .slice a3 is.length c3, .slice a4 bs.length c4] 47)).alloc (.cells #[] 9)).cell? ⟨w.heap.size, 2, none⟩ = some (.slice a3 is.length c3) := (HW.out _ (Below.refl _ _)).2.1.cell 2
  have HBL := hide hbl
  have HKK := hide hk
  cases hin : inB x 1 is.length with
  | false =>
    have HIN := hide hin
    have e0 : named is bs x = [] := by unfold named; rw [kindAt_out hin]; rfl
    rw [e0]
    clear e0
    clear hin h hi hp hk hbl
    go_enter Tryz.func50, Tryz.ntmps50
    go_wp2_with (go_at_call 52; refine (l01In_any x 1 _ _).mono ?_; rintro e w7 ⟨rfl, rfl⟩; rw [HIN.out])
    go_ret
    exact ⟨_, rfl, HL0.out, (HW.out _ (Below.refl _ _)).1⟩
  | true =>
    have HIN := hide hin
    obtain ⟨h1, h2⟩ := inB_true hin
    obtain ⟨j, rfl⟩ : ∃ j : Nat, x = (j : Int) + 1 := ⟨(x - 1).toNat, by omega⟩
    have hj : j < is.length := by omega
    have hj8 : j < 8 := by omega
    have hnm : named is bs ((j : Int) + 1) = if is[j].1 = 2 then nmdP bs is[j].2.2 else [] := by unfold named; rw [(kindAt_in hj).1, (kindAt_in hj).2]
    rw [hnm]
    clear hnm
    have hwj : IntKind.i64.wrap (j : Int) = (j : Int) := wrap_small _ (by omega) (by omega)
    obtain ⟨qa, qc, qe, -, qh⟩ := h.i
    simp only [Value.slice.injEq, true_and] at qe
    obtain ⟨rfl, rfl⟩ := qe
    obtain ⟨g2, o2, ⟨t0, t1, t2⟩, rfl, hg2, r0, r1, r2, e0, e1, rr⟩ := qh j hj
    have hpl := hp _ (List.getElem_mem hj)
    obtain ⟨⟨kd, ln, ps⟩, hX⟩ : ∃ X, is[j] = X := ⟨_, rfl⟩
    rw [hX] at e0 e1 rr hpl ⊢
    simp only at e0 e1 rr r0 r1 r2 hpl
    subst e0 e1
    obtain ⟨sa, sc, rfl⟩ := rr.form
    have HRR := hide rr
    have HIH := hide h
    have bW := (HW.out _ (Below.refl _ _)).1
    have y0 := (bW.cell (p := ⟨g2, o2 + j * 3, none⟩) hg2).trans r0
    have y1 := (bW.cell (p := ⟨g2, o2 + j * 3 + 1, none⟩) hg2).trans r1
    have y2 := (bW.cell (p := ⟨g2, o2 + j * 3 + 2, none⟩) hg2).trans r2
    have j0 : (0 : Int) ≤ (j : Int) := by omega
    have j1 : (j : Int) < (is.length : Int) := by omega
    clear qh hX rr bW r0 r1 r2 hin h1 h2 hp hk hbl h hi
    by_cases hkd : kd = 2
    rotate_left
    · have hkb : (kd != 2) = true := by simp [hkd]
      rw [if_neg hkd]
      go_enter Tryz.func50, Tryz.ntmps50
      go_wp2_with (go_at_call 52; refine (l01In_any ((j : Int) + 1) 1 _ _).mono ?_; rintro e w7 ⟨rfl, rfl⟩; rw [HIN.out])
      go_ret
      exact ⟨_, rfl, HL0.out, (HW.out _ (Below.refl _ _)).1⟩
    subst hkd
    rw [if_pos rfl]
    obtain ⟨RES, hRES⟩ : ∃ r, (nmdP bs ps).map (·.1) = r := ⟨_, rfl⟩
    rw [hRES]
    have HRES := hide hRES
    clear hRES
    obtain ⟨W1, hW1⟩ : ∃ W1, (((w.alloc (.cells #[.slice a1 xs.length c1, .slice a2 ys.length c2, .slice (some ⟨g2, o2, none⟩) is.length c3, .slice a4 bs.length c4] 47)).alloc (.cells #[] 9)).alloc (.cells #[.int .i64 2, .int .i64 ln, .slice sa ps.length sc] 81)) = W1 := ⟨_, rfl⟩
    have HB1 : Hid (AtC W1 (w.heap.size + 1 + 1) 81 #[.int .i64 2, .int .i64 ln, .slice sa ps.length sc] ∧ Below ((w.alloc (.cells #[.slice a1 xs.length c1, .slice a2 ys.length c2, .slice (some ⟨g2, o2, none⟩) is.length c3, .slice a4 bs.length c4] 47)).alloc (.cells #[] 9)).heap.size ((w.alloc (.cells #[.slice a1 xs.length c1, .slice a2 ys.length c2, .slice (some ⟨g2, o2, none⟩) is.length c3, .slice a4 bs.length c4] 47)).alloc (.cells #[] 9)) W1) := by
      rw [← hW1]
      refine ⟨?_, (Below.refl _ _).alloc (Nat.le_refl _) _⟩
      have k := AtC.new ((w.alloc (.cells #[.slice a1 xs.length c1, .slice a2 ys.length c2, .slice (some ⟨g2, o2, none⟩) is.length c3, .slice a4 bs.length c4] 47)).alloc (.cells #[] 9)) 81 #[.int .i64 2, .int .i64 ln, .slice sa ps.length sc]
      have e0 : ((w.alloc (.cells #[.slice a1 xs.length c1, .slice a2 ys.length c2, .slice (some ⟨g2, o2, none⟩) is.length c3, .slice a4 bs.length c4] 47)).alloc (.cells #[] 9)).heap.size = w.heap.size + 1 + 1 := by simp
      rw [e0] at k
      exact k
    have HN1 : Hid (NmR w W1 #[.slice a1 xs.length c1, .slice a2 ys.length c2, .slice (some ⟨g2, o2, none⟩) is.length c3, .slice a4 bs.length c4] #[.int .i64 2, .int .i64 ln, .slice sa ps.length sc] 0 (.slice (some ⟨w.heap.size + 1, 0, none⟩) 0 0) []) := by
      obtain ⟨k1, k2, k3⟩ := HW.out W1 HB1.out.2
      have l0 := ROwns.lit0 (w.alloc (.cells #[.slice a1 xs.length c1, .slice a2 ys.length c2, .slice (some ⟨g2, o2, none⟩) is.length c3, .slice a4 bs.length c4] 47)) (w.heap.size + 1) 9 (by simp)
      have e0 : (w.alloc (.cells #[.slice a1 xs.length c1, .slice a2 ys.length c2, .slice (some ⟨g2, o2, none⟩) is.length c3, .slice a4 bs.length c4] 47)).heap.size = w.heap.size + 1 := by simp
      rw [e0] at l0
      exact ⟨l0.below HB1.out.2 (Nat.le_refl _), fun k hk => by simp [Value.ownBlock] at hk; omega, k1, k2, HB1.out.1⟩
    go_enter Tryz.func50, Tryz.ntmps50
    go_wp2_with (go_at_call 52; refine (l01In_any ((j : Int) + 1) 1 _ _).mono ?_; rintro e w7 ⟨rfl, rfl⟩; rw [HIN.out])
    clear hW1 y0 y1 y2 x2 HB1 HW HL0
    go_loopw [5, 7] (fun x5 kk wr => ∃ (lv : Value) (l : List ByteArray) (q : Nat), lv = x5 ∧ q ≤ ps.length ∧ kk = .int .i64 q ∧ Hid (NmR w wr #[.slice a1 xs.length c1, .slice a2 ys.length c2, .slice (some ⟨g2, o2, none⟩) is.length c3, .slice a4 bs.length c4] #[.int .i64 2, .int .i64 ln, .slice sa ps.length sc] 0 lv l ∧ l.length ≤ 4 * q ∧ l = (nmdP bs (ps.take q)).map (·.1))) (fun _ kk _ => ps.length - (intOf kk).toNat)
    case atStart => exact ⟨_, [], 0, rfl, Nat.zero_le _, rfl, HN1.out, by decide, by simp [nmdP]⟩
    case round =>
      obtain ⟨lv, l, q, hlv, hq, rfl, HR⟩ := hrel
      subst hlv
      obtain ⟨wo, hwo⟩ : ∃ wo, wo = wr := ⟨_, rfl⟩
      subst hwo
      clear HN1
      have q0 : (0 : Int) ≤ (q : Int) := by omega
      have x7 : wo.cell? ⟨w.heap.size + 1 + 1, 2, none⟩ = some (.slice sa ps.length sc) := HR.out.1.x.cell 2
      by_cases hlt : q < ps.length
      rotate_left
      · have q1 : ¬ ((q : Int) < (ps.length : Int)) := by omega
        go_wp2
        go_ret
        refine ⟨_, rfl, ?_, HR.out.1.b⟩
        have e1 := HR.out.2.2
        rw [List.take_of_length_le (by omega), HRES.out] at e1
        rw [← e1]
        exact HR.out.1.o.base_le (by omega)
      have q1 : (q : Int) < (ps.length : Int) := by omega
      obtain ⟨pa', pc', e1, hcp⟩ := HRR.out
      simp only [Value.slice.injEq, true_and] at e1
      obtain ⟨rfl, rfl⟩ := e1
      obtain ⟨gp, op, rfl, hgp, kp⟩ := hcp q hlt
      obtain ⟨Pn, hPn⟩ : ∃ Pn, ps[q] = Pn := ⟨_, rfl⟩
      rw [hPn] at kp
      have HTK := hide (nmdP_take (bs := bs) hlt)
      rw [hPn] at HTK
      have CB := hide (fun (W : World) (hd : Below w.heap.size w W) => blk_any Pn (.slice a1 xs.length c1) (.slice a2 ys.length c2) (.slice (some ⟨g2, o2, none⟩) is.length c3) (.slice a4 bs.length c4) xs ys is bs w W HIH.out hd HBL.out)
      have hb4 : (blkAt bs Pn).2.1.length ≤ 4 := blkAt_four' HKK.out Pn
      obtain ⟨⟨bd, bss, btx⟩, hBD⟩ : ∃ X, blkAt bs Pn = X := ⟨_, rfl⟩
      obtain ⟨F, hF⟩ : ∃ F, inB Pn 1 bs.length = F := ⟨_, rfl⟩
      rw [hBD, hF] at CB
      rw [hBD] at hb4
      simp only at hb4
      have HWR : Hid (∀ W, Below wo.heap.size wo W → NmR w W #[.slice a1 xs.length c1, .slice a2 ys.length c2, .slice (some ⟨g2, o2, none⟩) is.length c3, .slice a4 bs.length c4] #[.int .i64 2, .int .i64 ln, .slice (some ⟨gp, op, none⟩) ps.length sc] 0 lv l ∧ W.cell? ⟨gp, op + q, none⟩ = some (.int .i64 Pn)) := fun W b => by
        have r2 := HR.out.1.below b
        exact ⟨r2, (r2.b.cell (p := ⟨gp, op + q, none⟩) hgp).trans kp⟩
      rw [hBD] at HTK
      clear hPn kp hcp hBD hF
      go_upto_region 8 with fail
      clear x7
      go_cut [8, 9] from 35 to 78 (fun bv ok wx => ∃ (bw : Nat) (ba : Option Addr) (bc : Nat), bv = .pointer (some ⟨bw, 0, none⟩) ∧ ok = .bool F ∧ AtC wx bw 101 #[.bool bd, .slice ba bss.length bc, .string btx] ∧ RSl w (.slice ba bss.length bc) bss ∧ Below wo.heap.size wo wx ∧ wo.heap.size ≤ bw)
      case first =>
        refine wp_region_alt (by kernel_rfl) [0, 1, 2, 3, 4, 5, 6, 7, 8, 9, 10] [11, 12] [([0, 1, 2, 3, 4, 5, 6, 7, 8, 10], [[9, 11, 12], [11, 9, 12]])] (fun i => match i with | 0 => .const [] (.agg #[.slice a1 xs.length c1, .slice a2 ys.length c2, .slice (some ⟨g2, o2, none⟩) is.length c3, .slice a4 bs.length c4]) | 1 => .const [] (.pointer (some ⟨w.heap.size + 1 + 1, 2, none⟩)) | 2 => .const [1] (.slice (some ⟨gp, op, none⟩) ps.length sc) | 3 => .const [] (.int .i64 (q : Int)) | 4 => .const [2, 3] (.pointer (some ⟨gp, op + q, none⟩)) | 5 => .const [4] (.int .i64 Pn) | 6 => MkT2 [0, 5] (BlkR w bd btx bss F) BlkR.below | 7 => MkMv 6 | 8 => MkFs 7 | 9 => MkSd 7 | 10 => MkW 101 #[.bool false, .slice none 0 0, .string ⟨#[]⟩] | _ => .triv) (fun x => ⟨List.toArray ((Value.agg #[Value.slice a1 xs.length c1, Value.slice a2 ys.length c2, Value.slice (some { block := g2, off := o2 }) is.length c3, Value.slice a4 bs.length c4]) :: (Value.int IntKind.i64 (↑j + 1)) :: (Value.pointer (some { block := w.heap.size, off := 0 })) :: (undef) :: (Value.slice none 0 0) :: (lv) :: (Value.pointer (some { block := w.heap.size + 1 + 1, off := 0 })) :: (Value.int IntKind.i64 ↑q) :: (x 10) :: (u9) :: (u10) :: (Value.slice (some { block := w.heap.size + 1, off := 0 }) 0 0) :: (Value.int IntKind.i64 (↑j + 1)) :: (Value.pointer (some { block := w.heap.size, off := 2 })) :: (Value.slice (some { block := g2, off := o2 }) is.length c3) :: (Value.int IntKind.i64 ↑is.length) :: (Value.bool true) :: (Value.bool false) :: (Value.bool false) :: (Value.pointer (some { block := w.heap.size, off := 2 })) :: (Value.slice (some { block := g2, off := o2 }) is.length c3) :: (Value.int IntKind.i64 (↑j + 1)) :: (Value.int IntKind.i64 ↑j) :: (Value.pointer (some { block := g2, off := o2 + j * 3 })) :: (Value.pointer (some { block := g2, off := o2 + j * 3 })) :: (Value.int IntKind.i64 2) :: (Value.bool false) :: (Value.bool false) :: (undef) :: (Value.pointer (some { block := w.heap.size, off := 2 })) :: (Value.slice (some { block := g2, off := o2 }) is.length c3) :: (Value.int IntKind.i64 (↑j + 1)) :: (Value.int IntKind.i64 ↑j) :: (Value.pointer (some { block := g2, off := o2 + j * 3 })) :: (Value.agg #[Value.int IntKind.i64 2, Value.int IntKind.i64 ln, Value.slice (some { block := gp, off := op }) ps.length sc]) :: (Value.int IntKind.i64 ↑q) :: (Value.pointer (some { block := w.heap.size + 1 + 1, off := 2 })) :: (Value.slice (some { block := gp, off := op }) ps.length sc) :: (Value.int IntKind.i64 ↑ps.length) :: (Value.bool true) :: (u40) :: (u41) :: (x 7) :: (x 0) :: (x 1) :: (x 2) :: (x 3) :: (x 4) :: (x 5) :: (x 6) :: (x 8) :: (x 9) :: (u52) :: (u53) :: (u54) :: (u55) :: (u56) :: (u57) :: (u58) :: (u59) :: (u60) :: (u61) :: (u62) :: (u63) :: (u64) :: (u65) :: (u66) :: (u67) :: (u68) :: (u69) :: (u70) :: (u71) :: (u72) :: (u73) :: (u74) :: (u75) :: (u76) :: (u77) :: (u78) :: (undef) :: []), []⟩) (fun i => match i with | 0 => u43 | 1 => u44 | 2 => u45 | 3 => u46 | 4 => u47 | 5 => u48 | 6 => u49 | 7 => u42 | 8 => u50 | 9 => u51 | 10 => u8 | _ => undef) rfl (makersOk2_of (by kernel_rfl) (by kernel_rfl)) (by kernel_rfl) (by kernel_rfl) (by kernel_rfl) rfl ?_ ?_ ?_
        · intro jo hj so x iw W hd hp K hK
          simp only [List.mem_cons, List.not_mem_nil, or_false] at hj
          rcases hj with rfl | rfl | rfl | rfl | rfl | rfl | rfl | rfl | rfl | rfl | rfl
          · refine wpOp_step (o := _) rfl fun K' hK' => ?_
            have HK := hide (fun (v : Value) (W' : World) h1 h2 => hK' _ _ (hK v W' h1 h2))
            simp only [upd, Nat.reduceEqDiff, if_true, if_false] at HK
            have bw := of_drew hp.bel
            have k0 := (HWR.out W bw).1.d
            have q5 : W.cell? ⟨w.heap.size, 0, none⟩ = some (.slice a1 xs.length c1) := k0.cell 0
            have q6 : W.cell? ⟨w.heap.size, 1, none⟩ = some (.slice a2 ys.length c2) := k0.cell 1
            have q7 : W.cell? ⟨w.heap.size, 2, none⟩ = some (.slice (some ⟨g2, o2, none⟩) is.length c3) := k0.cell 2
            have q8 : W.cell? ⟨w.heap.size, 3, none⟩ = some (.slice a4 bs.length c4) := k0.cell 3
            clear k0 bw
            clear hK hK' hp hd
            go_simp
            exact HK.out _ _ (Below.refl _ _) rfl
          · refine wpOp_step (o := _) rfl fun K' hK' => ?_
            have HK := hide (fun (v : Value) (W' : World) h1 h2 => hK' _ _ (hK v W' h1 h2))
            simp only [upd, Nat.reduceEqDiff, if_true, if_false] at HK
            clear hK hK' hp hd
            go_simp
            exact HK.out _ _ (Below.refl _ _) rfl
          · refine wpOp_step (o := _) rfl fun K' hK' => ?_
            have HK := hide (fun (v : Value) (W' : World) h1 h2 => hK' _ _ (hK v W' h1 h2))
            simp only [upd, Nat.reduceEqDiff, if_true, if_false] at HK
            have e1 : x 1 = .pointer (some ⟨w.heap.size + 1 + 1, 2, none⟩) := hp.post 1 (hd 1 (show 1 ∈ [1] from by decide))
            have bw := of_drew hp.bel
            have q5 : W.cell? ⟨w.heap.size + 1 + 1, 2, none⟩ = some (.slice (some ⟨gp, op, none⟩) ps.length sc) := (HWR.out W bw).1.x.cell 2
            clear bw
            clear hK hK' hp hd
            simp only [e1] at HK ⊢
            go_simp
            exact HK.out _ _ (Below.refl _ _) rfl
          · refine wpOp_step (o := _) rfl fun K' hK' => ?_
            have HK := hide (fun (v : Value) (W' : World) h1 h2 => hK' _ _ (hK v W' h1 h2))
            simp only [upd, Nat.reduceEqDiff, if_true, if_false] at HK
            clear hK hK' hp hd
            go_simp
            exact HK.out _ _ (Below.refl _ _) rfl
          · refine wpOp_step (o := _) rfl fun K' hK' => ?_
            have HK := hide (fun (v : Value) (W' : World) h1 h2 => hK' _ _ (hK v W' h1 h2))
            simp only [upd, Nat.reduceEqDiff, if_true, if_false] at HK
            have e2 : x 2 = .slice (some ⟨gp, op, none⟩) ps.length sc := hp.post 2 (hd 2 (show 2 ∈ [2, 3] from by decide))
            have e3 : x 3 = .int .i64 (q : Int) := hp.post 3 (hd 3 (show 3 ∈ [2, 3] from by decide))
            clear hK hK' hp hd
            simp only [e2, e3] at HK ⊢
            go_simp
            exact HK.out _ _ (Below.refl _ _) rfl
          · refine wpOp_step (o := _) rfl fun K' hK' => ?_
            have HK := hide (fun (v : Value) (W' : World) h1 h2 => hK' _ _ (hK v W' h1 h2))
            simp only [upd, Nat.reduceEqDiff, if_true, if_false] at HK
            have e4 : x 4 = .pointer (some ⟨gp, op + q, none⟩) := hp.post 4 (hd 4 (show 4 ∈ [4] from by decide))
            have bw := of_drew hp.bel
            have q9 := (HWR.out W bw).2
            clear bw
            clear hK hK' hp hd
            simp only [e4] at HK ⊢
            go_simp
            exact HK.out _ _ (Below.refl _ _) rfl
          · refine wpOp_step (o := _) rfl fun K' hK' => ?_
            have HK := hide (fun (v : Value) (W' : World) h1 h2 => hK' _ _ (hK v W' h1 h2))
            simp only [upd, Nat.reduceEqDiff, if_true, if_false] at HK
            have e0 : x 0 = .agg #[.slice a1 xs.length c1, .slice a2 ys.length c2, .slice (some ⟨g2, o2, none⟩) is.length c3, .slice a4 bs.length c4] := hp.post 0 (hd 0 (show 0 ∈ [0, 5] from by decide))
            have e5 : x 5 = .int .i64 Pn := hp.post 5 (hd 5 (show 5 ∈ [0, 5] from by decide))
            have dr := (HWR.out W (of_drew hp.bel)).1.b
            clear hK hK' hp hd
            simp only [e0, e5] at HK ⊢
            clear e0 e5
            go_simp
            refine (CB.out W dr).mono ?_
            rintro e w6 ⟨sv, rfl, R6, B6⟩
            obtain ⟨ba, bc, rfl, hR6⟩ := R6
            go_simp
            exact HK.out _ _ B6 ⟨_, _, rfl, ba, bc, rfl, rfl, ba, bc, rfl, hR6⟩
          · refine wpOp_step (o := _) rfl fun K' hK' => ?_
            have HK := hide (fun (v : Value) (W' : World) h1 h2 => hK' _ _ (hK v W' h1 h2))
            simp only [upd, Nat.reduceEqDiff, if_true, if_false] at HK
            have e6 : ∃ a r, x 6 = .tuple #[a, r] ∧ BlkR w bd btx bss F (iw 6).1 (iw 6).2 W a r := hp.post 6 (hd 6 (show 6 ∈ [6] from by decide))
            clear hK hK' hp hd
            obtain ⟨a, r, e6, -⟩ := e6
            have ea := hide e6
            simp only [e6] at HK ⊢
            clear e6
            go_simp
            exact HK.out _ _ (Below.refl _ _) ⟨ea.out, a, r, rfl⟩
          · refine wpOp_step (o := _) rfl fun K' hK' => ?_
            have HK := hide (fun (v : Value) (W' : World) h1 h2 => hK' _ _ (hK v W' h1 h2))
            simp only [upd, Nat.reduceEqDiff, if_true, if_false] at HK
            have e7 : x 6 = x 7 ∧ ∃ a r, x 7 = .tuple #[a, r] := hp.post 7 (hd 7 (show 7 ∈ [7] from by decide))
            clear hK hK' hp hd
            obtain ⟨-, a, r, e7⟩ := e7
            have ea : Hid (a = fstOf (x 7)) := by rw [e7]; rfl
            simp only [e7] at HK ⊢
            clear e7
            go_simp
            exact HK.out _ _ (Below.refl _ _) ea.out
          · refine wpOp_step (o := _) rfl fun K' hK' => ?_
            have HK := hide (fun (v : Value) (W' : World) h1 h2 => hK' _ _ (hK v W' h1 h2))
            simp only [upd, Nat.reduceEqDiff, if_true, if_false] at HK
            have e7 : x 6 = x 7 ∧ ∃ a r, x 7 = .tuple #[a, r] := hp.post 7 (hd 7 (show 7 ∈ [7] from by decide))
            clear hK hK' hp hd
            obtain ⟨-, a, r, e7⟩ := e7
            have ea : Hid (r = sndOf (x 7)) := by rw [e7]; rfl
            simp only [e7] at HK ⊢
            clear e7
            go_simp
            exact HK.out _ _ (Below.refl _ _) ea.out
          · refine wpOp_step (o := _) rfl fun K' hK' => ?_
            have HK := hide (fun (v : Value) (W' : World) h1 h2 => hK' _ _ (hK v W' h1 h2))
            simp only [upd, Nat.reduceEqDiff, if_true, if_false] at HK
            clear hK hK' hp hd
            go_simp
            exact HK.out _ _ ((Below.refl _ W).alloc (Nat.le_refl _) _) ⟨rfl, by simp, AtC.new W 101 _⟩
        · intro x iw W hp
          obtain ⟨a, r, e6, R6⟩ := hp.post 6 (by decide)
          obtain ⟨e7, -⟩ := hp.post 7 (by decide)
          have e8 : x 8 = fstOf (x 7) := hp.post 8 (by decide)
          have e9 : x 9 = sndOf (x 7) := hp.post 9 (by decide)
          obtain ⟨e10, z10, A10⟩ := hp.post 10 (by decide)
          have l10 := hp.lo 10 (by decide)
          have lc := hp.lo 6 (by decide)
          have bel := of_drew hp.bel
          have ap := hp.apart 6 (by decide) 10 (by decide) (by decide)
          rw [← e7, e6] at e8
          rw [← e7, e6] at e9
          replace e9 : x 9 = r := e9
          rw [e6] at e7
          replace e7 := e7.symm
          replace e8 : x 8 = a := e8
          have y0 : W.cell? ⟨(iw 10).1, 0, none⟩ = some (.bool false) := A10.cell 0
          have f0 := A10.frozen 0
          have y1 : W.cell? ⟨(iw 10).1, 1, none⟩ = some (.slice none 0 0) := A10.cell 1
          have f1 := A10.frozen 1
          have y2 : W.cell? ⟨(iw 10).1, 2, none⟩ = some (.string ⟨#[]⟩) := A10.cell 2
          have f2 := A10.frozen 2
          obtain ⟨ba, bc, rfl, rfl, hR⟩ := R6
          have hb10 : wo.heap.size ≤ (iw 10).1 := l10.1
          have HFI : Hid (AtC W (iw 10).1 101 #[.bool false, .slice none 0 0, .string ⟨#[]⟩] ∧ RSl w (.slice ba bss.length bc) bss ∧ Below wo.heap.size wo W ∧ wo.heap.size ≤ (iw 10).1) := ⟨A10, hR, bel, hb10⟩
          clear hp A10 hR bel ap lc l10 z10 hb10
          simp only [e7, e8, e10, e9] at *
          generalize (iw 10).1 = bw at *
          go_wp2_with fail
          try rw [List.filterMap_nil]
          try go_wp2_with fail
          go_meet
          exact ⟨bw, ba, bc, rfl, rfl, ((HFI.out.1.set 0 _).set 1 _).set 2 _, HFI.out.2.1, ((HFI.out.2.2.1.setCell (p := ⟨bw, 0, none⟩) HFI.out.2.2.2 _).setCell (p := ⟨bw, 1, none⟩) HFI.out.2.2.2 _).setCell (p := ⟨bw, 2, none⟩) HFI.out.2.2.2 _, HFI.out.2.2.2⟩
        · intro qa hqa l hl x iw W hp
          simp only [List.mem_cons, List.not_mem_nil, or_false] at hqa
          subst hqa
          simp only [List.mem_cons, List.not_mem_nil, or_false] at hl
          obtain ⟨a, r, e6, R6⟩ := hp.post 6 (by decide)
          obtain ⟨e7, -⟩ := hp.post 7 (by decide)
          have e8 : x 8 = fstOf (x 7) := hp.post 8 (by decide)
          obtain ⟨e10, z10, A10⟩ := hp.post 10 (by decide)
          have l10 := hp.lo 10 (by decide)
          have lc := hp.lo 6 (by decide)
          have bel := of_drew hp.bel
          have ap := hp.apart 6 (by decide) 10 (by decide) (by decide)
          rw [← e7, e6] at e8
          rw [e6] at e7
          replace e7 := e7.symm
          replace e8 : x 8 = a := e8
          have y0 : W.cell? ⟨(iw 10).1, 0, none⟩ = some (.bool false) := A10.cell 0
          have f0 := A10.frozen 0
          have y1 : W.cell? ⟨(iw 10).1, 1, none⟩ = some (.slice none 0 0) := A10.cell 1
          have f1 := A10.frozen 1
          have y2 : W.cell? ⟨(iw 10).1, 2, none⟩ = some (.string ⟨#[]⟩) := A10.cell 2
          have f2 := A10.frozen 2
          obtain ⟨ba, bc, rfl, rfl, hR⟩ := R6
          have hb10 : wo.heap.size ≤ (iw 10).1 := l10.1
          have HFI : Hid (AtC W (iw 10).1 101 #[.bool false, .slice none 0 0, .string ⟨#[]⟩] ∧ RSl w (.slice ba bss.length bc) bss ∧ Below wo.heap.size wo W ∧ wo.heap.size ≤ (iw 10).1) := ⟨A10, hR, bel, hb10⟩
          clear hp A10 hR bel ap lc l10 z10 hb10
          simp only [e7, e8, e10] at *
          generalize (iw 10).1 = bw at *
          rcases hl with rfl | rfl
          · go_wp2_with fail
            try rw [List.filterMap_nil]
            try go_wp2_with fail
            go_meet
            exact ⟨bw, ba, bc, rfl, rfl, ((HFI.out.1.set 0 _).set 1 _).set 2 _, HFI.out.2.1, ((HFI.out.2.2.1.setCell (p := ⟨bw, 0, none⟩) HFI.out.2.2.2 _).setCell (p := ⟨bw, 1, none⟩) HFI.out.2.2.2 _).setCell (p := ⟨bw, 2, none⟩) HFI.out.2.2.2 _, HFI.out.2.2.2⟩
          · go_wp2_with fail
            try rw [List.filterMap_nil]
            try go_wp2_with fail
            go_meet
            exact ⟨bw, ba, bc, rfl, rfl, ((HFI.out.1.set 0 _).set 1 _).set 2 _, HFI.out.2.1, ((HFI.out.2.2.1.setCell (p := ⟨bw, 0, none⟩) HFI.out.2.2.2 _).setCell (p := ⟨bw, 1, none⟩) HFI.out.2.2.2 _).setCell (p := ⟨bw, 2, none⟩) HFI.out.2.2.2 _, HFI.out.2.2.2⟩
      case rest =>
        obtain ⟨bw, ba, bc, rfl, rfl, Aw, Rw, Bw, lw⟩ := hcut
        have HN2 : Hid (NmR w wc #[.slice a1 xs.length c1, .slice a2 ys.length c2, .slice (some ⟨g2, o2, none⟩) is.length c3, .slice a4 bs.length c4] #[.int .i64 2, .int .i64 ln, .slice (some ⟨gp, op, none⟩) ps.length sc] bw lv l ∧ AtC wc bw 101 #[.bool bd, .slice ba bss.length bc, .string btx] ∧ l.length ≤ 4 * q + 0 ∧ l = (nmdP bs (ps.take q)).map (·.1) ++ (nmdS (bss.take 0)).map (·.1)) := ⟨(HR.out.1.below Bw).turn (fun k hk => by have := (HR.out.1.o.lt k hk).2; omega), Aw, HR.out.2.1, by rw [HR.out.2.2]; simp [nmdS]⟩
        have HRS := hide Rw
        clear Aw Rw Bw CB HR HWR lw
        go_wp2_with fail
        go_loopw [5, 10] (fun x5 kk wr => ∃ (lv : Value) (l : List ByteArray) (t : Nat), lv = x5 ∧ t ≤ bss.length ∧ kk = .int .i64 t ∧ Hid (NmR w wr #[.slice a1 xs.length c1, .slice a2 ys.length c2, .slice (some ⟨g2, o2, none⟩) is.length c3, .slice a4 bs.length c4] #[.int .i64 2, .int .i64 ln, .slice (some ⟨gp, op, none⟩) ps.length sc] bw lv l ∧ AtC wr bw 101 #[.bool bd, .slice ba bss.length bc, .string btx] ∧ l.length ≤ 4 * q + t ∧ l = (nmdP bs (ps.take q)).map (·.1) ++ (nmdS (bss.take t)).map (·.1) ∧ (bd = true ∨ t = 0))) (fun _ kk _ => bss.length - (intOf kk).toNat)
        case atStart => exact ⟨lv, l, 0, rfl, Nat.zero_le _, rfl, HN2.out.1, HN2.out.2.1, HN2.out.2.2.1, HN2.out.2.2.2, .inr rfl⟩
        case round =>
          clear HN2
          obtain ⟨lv', l', t, hlv, ht, rfl, HS⟩ := hrel
          subst hlv
          have g0 : wr.cell? ⟨bw, 0, none⟩ = some (.bool bd) := HS.out.2.1.cell 0
          have g1 : wr.cell? ⟨bw, 1, none⟩ = some (.slice ba bss.length bc) := HS.out.2.1.cell 1
          have t0 : (0 : Int) ≤ (t : Int) := by omega
          have hq2 : q < 2 := by omega
          by_cases htl : t < bss.length
          rotate_left
          · have t1 : ¬ ((t : Int) < (bss.length : Int)) := by omega
            go_wp2
            go_roundw
            case rel =>
              refine ⟨lv', l', q + 1, rfl, by omega, by go_num, HS.out.1.turn (fun k hk => by have := (HS.out.1.o.lt k hk).1; omega), by have := HS.out.2.2.1; omega, ?_⟩
              rw [HTK.out, List.map_append, HS.out.2.2.2.1, List.take_of_length_le (show bss.length ≤ t by omega)]
              rcases HS.out.2.2.2.2 with rfl | e
              · rfl
              · have : bss = [] := List.length_eq_zero_iff.1 (by omega)
                subst this
                cases bd <;> rfl
            case measure => simp [intOf]; omega
          have t1 : (t : Int) < (bss.length : Int) := by omega
          cases bd with
          | false =>
            go_wp2
            go_roundw
            case rel =>
              refine ⟨lv', l', q + 1, rfl, by omega, by go_num, HS.out.1.turn (fun k hk => by have := (HS.out.1.o.lt k hk).1; omega), by have := HS.out.2.2.1; omega, ?_⟩
              rcases HS.out.2.2.2.2 with e | e
              · cases e
              · subst e
                rw [HTK.out, List.map_append, HS.out.2.2.2.1]
                rfl
            case measure => simp [intOf]; omega
          | true =>
          obtain ⟨sa', sc', e1, -, hcs⟩ := HRS.out
          simp only [Value.slice.injEq, true_and] at e1
          obtain ⟨rfl, rfl⟩ := e1
          obtain ⟨gs, os, rfl, hgs, ks0, ks1⟩ := hcs t htl
          obtain ⟨sn, hsn⟩ : ∃ sn, bss[t].1 = sn := ⟨_, rfl⟩
          rw [hsn] at ks0
          have HTS := hide (nmdS_take htl)
          have HSN := hide hsn
          replace ks0 := (HS.out.1.b.cell (p := ⟨gs, os + t * 2, none⟩) hgs).trans ks0
          clear hcs hsn ks1
          by_cases hse : sn = ⟨#[]⟩
          · subst hse
            go_wp2
            go_roundw
            case rel =>
              refine ⟨lv', l', t + 1, rfl, by omega, by go_num, HS.out.1, HS.out.2.1, by have := HS.out.2.2.1; omega, ?_, by simp⟩
              rw [HTS.out, HS.out.2.2.2.1, if_pos HSN.out, List.append_nil]
            case measure => simp [intOf]; omega
          have hse2 : (sn.toList == ([] : List UInt8)) = false := beq_empty hse
          have hse3 : (sn.toList != ([] : List UInt8)) = true := by simp [bne, hse2]
          have HT : Hid (ROwns (wr.alloc (.cells #[.string sn] 9)) (w.heap.size + 1) 9 lv' (stc l')) := HS.out.1.o.alloc _
          have HK2 : Hid ((wr.alloc (.cells #[.string sn] 9)).cell? ⟨wr.heap.size, 0, none⟩ = some (.string sn)) := (AtC.new wr 9 #[.string sn]).cell 0
          have HSZ : Hid (w.heap.size + 1 ≤ (wr.alloc (.cells #[.string sn] 9)).heap.size) := by have := HS.out.1.b.size; show _ ≤ _; simp; omega
          have HTL : Hid ((stc l').length ≤ 100000000000) := by have := HS.out.2.2.1; show _ ≤ _; rw [stc_length]; omega
          have HAL : Hid (Below wr.heap.size wr (wr.alloc (.cells #[.string sn] 9))) := (Below.refl _ wr).alloc (Nat.le_refl _) _
          go_wp2_with (at_builtin; refine wpList_step fun K' hK' => ?_; refine step_append_one _ rfl (.tmp 70) (.tmp 77) 32 rfl (w.heap.size + 1) 9 Tryz.w96 _ 16 Tryz.w9 rfl (by decide) lv' _ rfl HT.out HSZ.out wr.heap.size (.string sn) rfl HK2.out rfl HTL.out ?_; intro v12 w12 T12 G12 V12; refine hK' _ _ ?_; have HR12 := hide (And.intro T12 (And.intro G12 V12)); clear T12 G12 V12 hK')
          have HRL : Hid (NmR w w12 #[.slice a1 xs.length c1, .slice a2 ys.length c2, .slice (some ⟨g2, o2, none⟩) is.length c3, .slice a4 bs.length c4] #[.int .i64 2, .int .i64 ln, .slice (some ⟨gp, op, none⟩) ps.length sc] bw v12 (l' ++ [sn]) ∧ AtC w12 bw 101 #[.bool true, .slice (some ⟨gs, os, none⟩) bss.length bc, .string btx] ∧ (l' ++ [sn]).length ≤ 4 * q + (t + 1) ∧ l' ++ [sn] = (nmdP bs (ps.take q)).map (·.1) ++ (nmdS (bss.take (t + 1))).map (·.1)) := by
            obtain ⟨T12, G12, V12⟩ := HR12.out
            have n1 := HS.out.1.below HAL.out
            have hbw : bw < (wr.alloc (.cells #[.string sn] 9)).heap.size := (HS.out.2.1.over HAL.out).lt
            refine ⟨n1.app (by rw [stc_append]; exact T12) G12 V12 hbw, (HS.out.2.1.over HAL.out).grown G12 (fun e => (HS.out.1.n _ e).2 rfl), by have := HS.out.2.2.1; simp; omega, ?_⟩
            rw [HTS.out, HS.out.2.2.2.1, if_neg (by rw [HSN.out]; exact hse), List.map_append, List.append_assoc, List.map_cons, List.map_nil, HSN.out]
          go_roundw
          case rel => exact ⟨v12, l' ++ [sn], t + 1, rfl, by omega, by go_num, HRL.out.1, HRL.out.2.1, HRL.out.2.2.1, HRL.out.2.2.2, by simp⟩
          case measure => simp [intOf]; omega
end Go.Proofs.YtmjhgfkplolelaaGreat
/- Of the specification: TextOf by its contract. -/
namespace Go.Proofs.YtmjhgfkplolelaaGreat
open Go.RowKit Kit
/-- Both texts of a file. -/
def textsAt (is : List Ino) (bs : List Blk) (i : Int) : ByteArray × ByteArray := if kindAt is i = 1 then ((blkAt bs ((ptrsAt is i).getD 0 0)).2.2, (blkAt bs ((ptrsAt is i).getD 1 0)).2.2) else (⟨#[]⟩, ⟨#[]⟩)
set_option maxRecDepth 100000 in
set_option maxHeartbeats 6400000 in
theorem text_any (x : Int) (dx dy iv bv : Value) (xs ys : List Bool) (is : List Ino) (bs : List Blk) (w : World) (h : DR w dx dy iv bv xs ys is bs) (hi : is.length ≤ 1048576) (hbl : bs.length ≤ 1048576) (hp : ∀ q ∈ is, q.2.2.length = 2) :
    Calls Tryz.prog 53 #[.agg #[dx, dy, iv, bv], .int .i64 x] w fun e w' => e = .returned (.tuple #[.string (textsAt is bs x).1, .string (textsAt is bs x).2]) ∧ Below w.heap.size w w' := by
  obtain ⟨a3, c3, rfl, -, hc⟩ := h.i
  have HH := hide h
  have HBL := hide hbl
  cases hin : inB x 1 is.length with
  | false =>
    have HIN := hide hin
    have e0 : textsAt is bs x = (⟨#[]⟩, ⟨#[]⟩) := by unfold textsAt; rw [kindAt_out hin]; rfl
    rw [e0]
    clear hin h hc hi hp hbl e0
    have HB : Hid (∀ A, Below w.heap.size w (w.alloc (.cells A 47))) := fun A => (Below.refl _ w).alloc (Nat.le_refl _) _
    go_enter Tryz.func53, Tryz.ntmps53
    go_wp2_with (go_at_call 52; refine (l01In_any x 1 _ _).mono ?_; rintro e w7 ⟨rfl, rfl⟩; rw [HIN.out])
    go_ret2
    exact ⟨rfl, HB.out _⟩
  | true =>
    have HIN := hide hin
    obtain ⟨h1, h2⟩ := inB_true hin
    obtain ⟨j, rfl⟩ : ∃ j : Nat, x = (j : Int) + 1 := ⟨(x - 1).toNat, by omega⟩
    have hj : j < is.length := by omega
    obtain ⟨g2, o2, ⟨t0, t1, t2⟩, rfl, hg2, r0, r1, r2, e0, e1, rr⟩ := hc j hj
    have hpl := hp _ (List.getElem_mem hj)
    have hT : textsAt is bs ((j : Int) + 1) = if is[j].1 = 1 then ((blkAt bs (is[j].2.2.getD 0 0)).2.2, (blkAt bs (is[j].2.2.getD 1 0)).2.2) else (⟨#[]⟩, ⟨#[]⟩) := by unfold textsAt; rw [(kindAt_in hj).1, (kindAt_in hj).2]
    rw [hT]
    obtain ⟨⟨kd, ln, ps⟩, hX⟩ : ∃ X, is[j] = X := ⟨_, rfl⟩
    rw [hX] at e0 e1 rr hpl ⊢
    simp only at e0 e1 rr r0 r1 r2 hpl ⊢
    subst e0 e1
    obtain ⟨p0, p1, rfl⟩ : ∃ p0 p1, ps = [p0, p1] := by
      match ps, hpl with
      | [p0, p1], _ => exact ⟨p0, p1, rfl⟩
    obtain ⟨sa, sc, e1, hcp⟩ := rr
    have e2 : t2 = .slice sa 2 sc := e1
    subst e2
    obtain ⟨gp, op, rfl, hgp, kp0⟩ := hcp 0 (by simp)
    obtain ⟨gp', op', e3, -, kp1⟩ := hcp 1 (by simp)
    simp only [Option.some.injEq, Addr.mk.injEq, and_true] at e3
    obtain ⟨rfl, rfl⟩ := e3
    simp only [List.getElem_cons_zero, List.getElem_cons_succ, Nat.add_zero] at kp0 kp1
    have HW : Hid (∀ W, Below (w.alloc (.cells #[dx, dy, .slice (some ⟨g2, o2, none⟩) is.length c3, bv] 47)).heap.size (w.alloc (.cells #[dx, dy, .slice (some ⟨g2, o2, none⟩) is.length c3, bv] 47)) W → Below w.heap.size w W ∧ AtC W w.heap.size 47 #[dx, dy, .slice (some ⟨g2, o2, none⟩) is.length c3, bv] ∧ W.cell? ⟨g2, o2 + j * 3, none⟩ = some (.int .i64 kd) ∧ W.cell? ⟨g2, o2 + j * 3 + 1, none⟩ = some (.int .i64 ln) ∧ W.cell? ⟨g2, o2 + j * 3 + 2, none⟩ = some (.slice (some ⟨gp, op, none⟩) 2 sc) ∧ W.cell? ⟨gp, op, none⟩ = some (.int .i64 p0) ∧ W.cell? ⟨gp, op + 1, none⟩ = some (.int .i64 p1)) := fun W b => by
      have bb : Below w.heap.size w W := ((Below.refl _ w).alloc (Nat.le_refl _) _).trans (b.mono (by simp))
      exact ⟨bb, (AtC.new w 47 _).over b, (bb.cell (p := ⟨g2, o2 + j * 3, none⟩) hg2).trans r0, (bb.cell (p := ⟨g2, o2 + j * 3 + 1, none⟩) hg2).trans r1, (bb.cell (p := ⟨g2, o2 + j * 3 + 2, none⟩) hg2).trans r2, (bb.cell (p := ⟨gp, op, none⟩) hgp).trans kp0, (bb.cell (p := ⟨gp, op + 1, none⟩) hgp).trans kp1⟩
    have hwj : IntKind.i64.wrap (j : Int) = (j : Int) := wrap_small _ (by omega) (by omega)
    have j0 : (0 : Int) ≤ (j : Int) := by omega
    have j1 : (j : Int) < (is.length : Int) := by omega
    obtain ⟨-, -, y0, y1, y2, y3, y4⟩ := HW.out _ (Below.refl _ _)
    have HB : Hid (Below w.heap.size w (w.alloc (.cells #[dx, dy, .slice (some ⟨g2, o2, none⟩) is.length c3, bv] 47))) := (HW.out _ (Below.refl _ _)).1
    clear hT hX hin h1 h2 hp hc hcp h r0 r1 r2 kp0 kp1 hpl hi hbl
    by_cases hkd : kd = 1
    rotate_left
    · have hkb : (kd != 1) = true := by simp [hkd]
      rw [if_neg hkd]
      go_enter Tryz.func53, Tryz.ntmps53
      go_wp2_with (go_at_call 52; refine (l01In_any ((j : Int) + 1) 1 _ _).mono ?_; rintro e w7 ⟨rfl, rfl⟩; rw [HIN.out])
      go_ret2
      exact ⟨rfl, HB.out⟩
    subst hkd
    rw [if_pos rfl]
    simp only [List.getD_cons_zero, List.getD_cons_succ]
    have CB := hide (fun (P : Int) (W : World) (hd : Below w.heap.size w W) => blk_any P dx dy (.slice (some ⟨g2, o2, none⟩) is.length c3) bv xs ys is bs w W HH.out hd HBL.out)
    obtain ⟨⟨bd, bss, btx⟩, hBD⟩ : ∃ X, blkAt bs p0 = X := ⟨_, rfl⟩
    obtain ⟨⟨cd, css, ctx⟩, hCD⟩ : ∃ X, blkAt bs p1 = X := ⟨_, rfl⟩
    obtain ⟨F, hF⟩ : ∃ F, inB p0 1 bs.length = F := ⟨_, rfl⟩
    obtain ⟨G, hG⟩ : ∃ F, inB p1 1 bs.length = F := ⟨_, rfl⟩
    have CB0 := hide (CB.out p0)
    have CB1 := hide (CB.out p1)
    rw [hBD, hF] at CB0
    rw [hCD, hG] at CB1
    rw [hBD, hCD]
    clear hBD hCD hF hG CB HB
    obtain ⟨w0, hw0⟩ : ∃ w0, (w.alloc (.cells #[dx, dy, .slice (some ⟨g2, o2, none⟩) is.length c3, bv] 47)) = w0 := ⟨_, rfl⟩
    have hsz0 : w.heap.size + 1 ≤ w0.heap.size := by rw [← hw0]; simp
    rw [hw0] at HW y0 y1 y2 y3 y4
    have x2 : w0.cell? ⟨w.heap.size, 2, none⟩ = some (.slice (some ⟨g2, o2, none⟩) is.length c3) := (HW.out _ (Below.refl _ _)).2.1.cell 2
    go_enter Tryz.func53, Tryz.ntmps53
    go_upto_region 3 with (go_at_call 52; refine (l01In_any ((j : Int) + 1) 1 _ _).mono ?_; rintro e w7 ⟨rfl, hw7⟩; subst w7; rw [HIN.out])
    clear hw0 y0 y1 y2 y3 y4 x2
    go_cut [6, 7] from 37 to 50 (fun bv ok wx => ∃ (bw : Nat) (ba : Option Addr) (bc : Nat), bv = .pointer (some ⟨bw, 0, none⟩) ∧ ok = .bool F ∧ AtC wx bw 101 #[.bool bd, .slice ba bss.length bc, .string btx] ∧ Below w0.heap.size w0 wx ∧ w0.heap.size ≤ bw)
    case first =>
      refine wp_region_alt (by kernel_rfl) [0, 1, 2, 3, 4, 5, 6, 7, 8, 9, 10, 11, 12, 13, 14] [15, 16] [([0, 1, 2, 3, 4, 5, 6, 7, 8, 9, 10, 11, 12, 14], [[13, 15, 16], [15, 13, 16]])] (fun i => match i with | 0 => .const [] (.agg #[dx, dy, .slice (some ⟨g2, o2, none⟩) is.length c3, bv]) | 1 => .const [] (.pointer (some ⟨w.heap.size, 2, none⟩)) | 2 => .const [1] (.slice (some ⟨g2, o2, none⟩) is.length c3) | 3 => .const [] (.int .i64 ((j : Int) + 1)) | 4 => .const [3] (.int .i64 (j : Int)) | 5 => .const [2, 4] (.pointer (some ⟨g2, o2 + j * 3, none⟩)) | 6 => .const [5] (.pointer (some ⟨g2, o2 + j * 3 + 2, none⟩)) | 7 => .const [6] (.slice (some ⟨gp, op, none⟩) 2 sc) | 8 => .const [7] (.pointer (some ⟨gp, op, none⟩)) | 9 => .const [8] (.int .i64 p0) | 10 => MkT2 [0, 9] (BlkR w bd btx bss F) BlkR.below | 11 => MkMv 10 | 12 => MkFs 11 | 13 => MkSd 11 | 14 => MkW 101 #[.bool false, .slice none 0 0, .string ⟨#[]⟩] | _ => .triv) (fun x => ⟨List.toArray ((Value.agg #[dx, dy, Value.slice (some { block := g2, off := o2 }) is.length c3, bv]) :: (Value.int IntKind.i64 (↑j + 1)) :: (Value.pointer (some { block := w.heap.size, off := 0 })) :: (undef) :: (Value.string { data := #[] }) :: (Value.string { data := #[] }) :: (x 14) :: (undef) :: (undef) :: (undef) :: (Value.int IntKind.i64 (↑j + 1)) :: (Value.pointer (some { block := w.heap.size, off := 2 })) :: (Value.slice (some { block := g2, off := o2 }) is.length c3) :: (Value.int IntKind.i64 ↑is.length) :: (Value.bool true) :: (Value.bool false) :: (Value.bool false) :: (Value.pointer (some { block := w.heap.size, off := 2 })) :: (Value.slice (some { block := g2, off := o2 }) is.length c3) :: (Value.int IntKind.i64 (↑j + 1)) :: (Value.int IntKind.i64 ↑j) :: (Value.pointer (some { block := g2, off := o2 + j * 3 })) :: (Value.pointer (some { block := g2, off := o2 + j * 3 })) :: (Value.int IntKind.i64 1) :: (Value.bool false) :: (Value.bool false) :: (Value.bool false) :: (Value.pointer (some { block := w.heap.size, off := 2 })) :: (Value.slice (some { block := g2, off := o2 }) is.length c3) :: (Value.int IntKind.i64 (↑j + 1)) :: (Value.int IntKind.i64 ↑j) :: (Value.pointer (some { block := g2, off := o2 + j * 3 })) :: (Value.pointer (some { block := g2, off := o2 + j * 3 + 2 })) :: (Value.slice (some { block := gp, off := op }) 2 sc) :: (Value.int IntKind.i64 2) :: (Value.bool false) :: (Value.bool false) :: (x 11) :: (x 0) :: (x 1) :: (x 2) :: (x 3) :: (x 4) :: (x 5) :: (x 6) :: (x 7) :: (x 8) :: (x 9) :: (x 10) :: (x 12) :: (x 13) :: (undef) :: (undef) :: (undef) :: (undef) :: (undef) :: (undef) :: (undef) :: (undef) :: (undef) :: (undef) :: (undef) :: (undef) :: (undef) :: (undef) :: (undef) :: (undef) :: (undef) :: (undef) :: []), []⟩) (fun i => match i with | 0 => undef | 1 => undef | 2 => undef | 3 => undef | 4 => undef | 5 => undef | 6 => undef | 7 => undef | 8 => undef | 9 => undef | 10 => undef | 11 => undef | 12 => undef | 13 => undef | 14 => undef | _ => undef) rfl (makersOk2_of (by kernel_rfl) (by kernel_rfl)) (by kernel_rfl) (by kernel_rfl) (by kernel_rfl) rfl ?_ ?_ ?_
      · intro jo hj so x iw W hd hp K hK
        simp only [List.mem_cons, List.not_mem_nil, or_false] at hj
        rcases hj with rfl | rfl | rfl | rfl | rfl | rfl | rfl | rfl | rfl | rfl | rfl | rfl | rfl | rfl | rfl
        · refine wpOp_step (o := _) rfl fun K' hK' => ?_
          have HK := hide (fun (v : Value) (W' : World) h1 h2 => hK' _ _ (hK v W' h1 h2))
          simp only [upd, Nat.reduceEqDiff, if_true, if_false] at HK
          have bw := of_drew hp.bel
          obtain ⟨qb, qd, q0, q1, q2, q3, q4⟩ := HW.out W bw
          have k0 : W.cell? ⟨w.heap.size, 0, none⟩ = some (dx) := qd.cell 0
          have k1 : W.cell? ⟨w.heap.size, 1, none⟩ = some (dy) := qd.cell 1
          have k2 : W.cell? ⟨w.heap.size, 2, none⟩ = some (.slice (some ⟨g2, o2, none⟩) is.length c3) := qd.cell 2
          have k3 : W.cell? ⟨w.heap.size, 3, none⟩ = some (bv) := qd.cell 3
          clear bw qb qd q0 q1 q2 q3 q4
          clear hK hK' hp hd
          go_simp
          exact HK.out _ _ (Below.refl _ _) rfl
        · refine wpOp_step (o := _) rfl fun K' hK' => ?_
          have HK := hide (fun (v : Value) (W' : World) h1 h2 => hK' _ _ (hK v W' h1 h2))
          simp only [upd, Nat.reduceEqDiff, if_true, if_false] at HK
          clear hK hK' hp hd
          go_simp
          exact HK.out _ _ (Below.refl _ _) rfl
        · refine wpOp_step (o := _) rfl fun K' hK' => ?_
          have HK := hide (fun (v : Value) (W' : World) h1 h2 => hK' _ _ (hK v W' h1 h2))
          simp only [upd, Nat.reduceEqDiff, if_true, if_false] at HK
          have e1 : x 1 = .pointer (some ⟨w.heap.size, 2, none⟩) := hp.post 1 (hd 1 (show 1 ∈ [1] from by decide))
          have bw := of_drew hp.bel
          obtain ⟨qb, qd, q0, q1, q2, q3, q4⟩ := HW.out W bw
          have k1 : W.cell? ⟨w.heap.size, 2, none⟩ = some (.slice (some ⟨g2, o2, none⟩) is.length c3) := qd.cell 2
          clear bw qb qd q0 q1 q2 q3 q4
          clear hK hK' hp hd
          simp only [e1] at HK ⊢
          go_simp
          exact HK.out _ _ (Below.refl _ _) rfl
        · refine wpOp_step (o := _) rfl fun K' hK' => ?_
          have HK := hide (fun (v : Value) (W' : World) h1 h2 => hK' _ _ (hK v W' h1 h2))
          simp only [upd, Nat.reduceEqDiff, if_true, if_false] at HK
          clear hK hK' hp hd
          go_simp
          exact HK.out _ _ (Below.refl _ _) rfl
        · refine wpOp_step (o := _) rfl fun K' hK' => ?_
          have HK := hide (fun (v : Value) (W' : World) h1 h2 => hK' _ _ (hK v W' h1 h2))
          simp only [upd, Nat.reduceEqDiff, if_true, if_false] at HK
          have e3 : x 3 = .int .i64 ((j : Int) + 1) := hp.post 3 (hd 3 (show 3 ∈ [3] from by decide))
          clear hK hK' hp hd
          simp only [e3] at HK ⊢
          go_simp
          exact HK.out _ _ (Below.refl _ _) rfl
        · refine wpOp_step (o := _) rfl fun K' hK' => ?_
          have HK := hide (fun (v : Value) (W' : World) h1 h2 => hK' _ _ (hK v W' h1 h2))
          simp only [upd, Nat.reduceEqDiff, if_true, if_false] at HK
          have e2 : x 2 = .slice (some ⟨g2, o2, none⟩) is.length c3 := hp.post 2 (hd 2 (show 2 ∈ [2, 4] from by decide))
          have e4 : x 4 = .int .i64 (j : Int) := hp.post 4 (hd 4 (show 4 ∈ [2, 4] from by decide))
          clear hK hK' hp hd
          simp only [e2, e4] at HK ⊢
          go_simp
          exact HK.out _ _ (Below.refl _ _) rfl
        · refine wpOp_step (o := _) rfl fun K' hK' => ?_
          have HK := hide (fun (v : Value) (W' : World) h1 h2 => hK' _ _ (hK v W' h1 h2))
          simp only [upd, Nat.reduceEqDiff, if_true, if_false] at HK
          have e5 : x 5 = .pointer (some ⟨g2, o2 + j * 3, none⟩) := hp.post 5 (hd 5 (show 5 ∈ [5] from by decide))
          clear hK hK' hp hd
          simp only [e5] at HK ⊢
          go_simp
          exact HK.out _ _ (Below.refl _ _) rfl
        · refine wpOp_step (o := _) rfl fun K' hK' => ?_
          have HK := hide (fun (v : Value) (W' : World) h1 h2 => hK' _ _ (hK v W' h1 h2))
          simp only [upd, Nat.reduceEqDiff, if_true, if_false] at HK
          have e6 : x 6 = .pointer (some ⟨g2, o2 + j * 3 + 2, none⟩) := hp.post 6 (hd 6 (show 6 ∈ [6] from by decide))
          have bw := of_drew hp.bel
          obtain ⟨qb, qd, q0, q1, q2, q3, q4⟩ := HW.out W bw
          clear bw qb qd q0 q1 q3 q4
          clear hK hK' hp hd
          simp only [e6] at HK ⊢
          go_simp
          exact HK.out _ _ (Below.refl _ _) rfl
        · refine wpOp_step (o := _) rfl fun K' hK' => ?_
          have HK := hide (fun (v : Value) (W' : World) h1 h2 => hK' _ _ (hK v W' h1 h2))
          simp only [upd, Nat.reduceEqDiff, if_true, if_false] at HK
          have e7 : x 7 = .slice (some ⟨gp, op, none⟩) 2 sc := hp.post 7 (hd 7 (show 7 ∈ [7] from by decide))
          clear hK hK' hp hd
          simp only [e7] at HK ⊢
          go_simp
          exact HK.out _ _ (Below.refl _ _) rfl
        · refine wpOp_step (o := _) rfl fun K' hK' => ?_
          have HK := hide (fun (v : Value) (W' : World) h1 h2 => hK' _ _ (hK v W' h1 h2))
          simp only [upd, Nat.reduceEqDiff, if_true, if_false] at HK
          have e8 : x 8 = .pointer (some ⟨gp, op, none⟩) := hp.post 8 (hd 8 (show 8 ∈ [8] from by decide))
          have bw := of_drew hp.bel
          obtain ⟨qb, qd, q0, q1, q2, q3, q4⟩ := HW.out W bw
          clear bw qb qd q0 q1 q2 q4
          clear hK hK' hp hd
          simp only [e8] at HK ⊢
          go_simp
          exact HK.out _ _ (Below.refl _ _) rfl
        · refine wpOp_step (o := _) rfl fun K' hK' => ?_
          have HK := hide (fun (v : Value) (W' : World) h1 h2 => hK' _ _ (hK v W' h1 h2))
          simp only [upd, Nat.reduceEqDiff, if_true, if_false] at HK
          have e0 : x 0 = .agg #[dx, dy, .slice (some ⟨g2, o2, none⟩) is.length c3, bv] := hp.post 0 (hd 0 (show 0 ∈ [0, 9] from by decide))
          have e9 : x 9 = .int .i64 p0 := hp.post 9 (hd 9 (show 9 ∈ [0, 9] from by decide))
          have dr := (HW.out W (of_drew hp.bel)).1
          clear hK hK' hp hd
          simp only [e0, e9] at HK ⊢
          clear e0 e9
          go_simp
          refine (CB0.out W dr).mono ?_
          rintro e w6 ⟨sv, rfl, R6, B6⟩
          obtain ⟨ba, bc, rfl, hR6⟩ := R6
          go_simp
          exact HK.out _ _ B6 ⟨_, _, rfl, ba, bc, rfl, rfl, ba, bc, rfl, hR6⟩
        · refine wpOp_step (o := _) rfl fun K' hK' => ?_
          have HK := hide (fun (v : Value) (W' : World) h1 h2 => hK' _ _ (hK v W' h1 h2))
          simp only [upd, Nat.reduceEqDiff, if_true, if_false] at HK
          have e10 : ∃ a r, x 10 = .tuple #[a, r] ∧ BlkR w bd btx bss F (iw 10).1 (iw 10).2 W a r := hp.post 10 (hd 10 (show 10 ∈ [10] from by decide))
          clear hK hK' hp hd
          obtain ⟨a, r, e10, -⟩ := e10
          have ea := hide e10
          simp only [e10] at HK ⊢
          clear e10
          go_simp
          exact HK.out _ _ (Below.refl _ _) ⟨ea.out, a, r, rfl⟩
        · refine wpOp_step (o := _) rfl fun K' hK' => ?_
          have HK := hide (fun (v : Value) (W' : World) h1 h2 => hK' _ _ (hK v W' h1 h2))
          simp only [upd, Nat.reduceEqDiff, if_true, if_false] at HK
          have e11 : x 10 = x 11 ∧ ∃ a r, x 11 = .tuple #[a, r] := hp.post 11 (hd 11 (show 11 ∈ [11] from by decide))
          clear hK hK' hp hd
          obtain ⟨-, a, r, e11⟩ := e11
          have ea : Hid (a = fstOf (x 11)) := by rw [e11]; rfl
          simp only [e11] at HK ⊢
          clear e11
          go_simp
          exact HK.out _ _ (Below.refl _ _) ea.out
        · refine wpOp_step (o := _) rfl fun K' hK' => ?_
          have HK := hide (fun (v : Value) (W' : World) h1 h2 => hK' _ _ (hK v W' h1 h2))
          simp only [upd, Nat.reduceEqDiff, if_true, if_false] at HK
          have e11 : x 10 = x 11 ∧ ∃ a r, x 11 = .tuple #[a, r] := hp.post 11 (hd 11 (show 11 ∈ [11] from by decide))
          clear hK hK' hp hd
          obtain ⟨-, a, r, e11⟩ := e11
          have ea : Hid (r = sndOf (x 11)) := by rw [e11]; rfl
          simp only [e11] at HK ⊢
          clear e11
          go_simp
          exact HK.out _ _ (Below.refl _ _) ea.out
        · refine wpOp_step (o := _) rfl fun K' hK' => ?_
          have HK := hide (fun (v : Value) (W' : World) h1 h2 => hK' _ _ (hK v W' h1 h2))
          simp only [upd, Nat.reduceEqDiff, if_true, if_false] at HK
          clear hK hK' hp hd
          go_simp
          exact HK.out _ _ ((Below.refl _ W).alloc (Nat.le_refl _) _) ⟨rfl, by simp, AtC.new W 101 _⟩
      · intro x iw W hp
        obtain ⟨a, r, e10, R10⟩ := hp.post 10 (by decide)
        obtain ⟨e11, -⟩ := hp.post 11 (by decide)
        have e12 : x 12 = fstOf (x 11) := hp.post 12 (by decide)
        have e13 : x 13 = sndOf (x 11) := hp.post 13 (by decide)
        obtain ⟨e14, z14, A14⟩ := hp.post 14 (by decide)
        have l14 := hp.lo 14 (by decide)
        have lc := hp.lo 10 (by decide)
        have bel := of_drew hp.bel
        have ap := hp.apart 10 (by decide) 14 (by decide) (by decide)
        rw [← e11, e10] at e12
        rw [← e11, e10] at e13
        replace e13 : x 13 = r := e13
        rw [e10] at e11
        replace e11 := e11.symm
        replace e12 : x 12 = a := e12
        have y0 : W.cell? ⟨(iw 14).1, 0, none⟩ = some (.bool false) := A14.cell 0
        have f0 := A14.frozen 0
        have y1 : W.cell? ⟨(iw 14).1, 1, none⟩ = some (.slice none 0 0) := A14.cell 1
        have f1 := A14.frozen 1
        have y2 : W.cell? ⟨(iw 14).1, 2, none⟩ = some (.string ⟨#[]⟩) := A14.cell 2
        have f2 := A14.frozen 2
        obtain ⟨ba, bc, rfl, rfl, hR⟩ := R10
        have hb14 : w0.heap.size ≤ (iw 14).1 := l14.1
        have HFI : Hid (AtC W (iw 14).1 101 #[.bool false, .slice none 0 0, .string ⟨#[]⟩] ∧ Below w0.heap.size w0 W ∧ w0.heap.size ≤ (iw 14).1) := ⟨A14, bel, hb14⟩
        clear hp A14 hR bel ap lc l14 z14 hb14
        simp only [e11, e12, e14, e13] at *
        generalize (iw 14).1 = bw at *
        go_wp2_with fail
        try rw [List.filterMap_nil]
        try go_wp2_with fail
        go_meet
        exact ⟨bw, ba, bc, rfl, rfl, ((HFI.out.1.set 0 _).set 1 _).set 2 _, ((HFI.out.2.1.setCell (p := ⟨bw, 0, none⟩) HFI.out.2.2 _).setCell (p := ⟨bw, 1, none⟩) HFI.out.2.2 _).setCell (p := ⟨bw, 2, none⟩) HFI.out.2.2 _, HFI.out.2.2⟩
      · intro qa hqa l hl x iw W hp
        simp only [List.mem_cons, List.not_mem_nil, or_false] at hqa
        subst hqa
        simp only [List.mem_cons, List.not_mem_nil, or_false] at hl
        obtain ⟨a, r, e10, R10⟩ := hp.post 10 (by decide)
        obtain ⟨e11, -⟩ := hp.post 11 (by decide)
        have e12 : x 12 = fstOf (x 11) := hp.post 12 (by decide)
        obtain ⟨e14, z14, A14⟩ := hp.post 14 (by decide)
        have l14 := hp.lo 14 (by decide)
        have lc := hp.lo 10 (by decide)
        have bel := of_drew hp.bel
        have ap := hp.apart 10 (by decide) 14 (by decide) (by decide)
        rw [← e11, e10] at e12
        rw [e10] at e11
        replace e11 := e11.symm
        replace e12 : x 12 = a := e12
        have y0 : W.cell? ⟨(iw 14).1, 0, none⟩ = some (.bool false) := A14.cell 0
        have f0 := A14.frozen 0
        have y1 : W.cell? ⟨(iw 14).1, 1, none⟩ = some (.slice none 0 0) := A14.cell 1
        have f1 := A14.frozen 1
        have y2 : W.cell? ⟨(iw 14).1, 2, none⟩ = some (.string ⟨#[]⟩) := A14.cell 2
        have f2 := A14.frozen 2
        obtain ⟨ba, bc, rfl, rfl, hR⟩ := R10
        have hb14 : w0.heap.size ≤ (iw 14).1 := l14.1
        have HFI : Hid (AtC W (iw 14).1 101 #[.bool false, .slice none 0 0, .string ⟨#[]⟩] ∧ Below w0.heap.size w0 W ∧ w0.heap.size ≤ (iw 14).1) := ⟨A14, bel, hb14⟩
        clear hp A14 hR bel ap lc l14 z14 hb14
        simp only [e11, e12, e14] at *
        generalize (iw 14).1 = bw at *
        rcases hl with rfl | rfl
        · go_wp2_with fail
          try rw [List.filterMap_nil]
          try go_wp2_with fail
          go_meet
          exact ⟨bw, ba, bc, rfl, rfl, ((HFI.out.1.set 0 _).set 1 _).set 2 _, ((HFI.out.2.1.setCell (p := ⟨bw, 0, none⟩) HFI.out.2.2 _).setCell (p := ⟨bw, 1, none⟩) HFI.out.2.2 _).setCell (p := ⟨bw, 2, none⟩) HFI.out.2.2 _, HFI.out.2.2⟩
        · go_wp2_with fail
          try rw [List.filterMap_nil]
          try go_wp2_with fail
          go_meet
          exact ⟨bw, ba, bc, rfl, rfl, ((HFI.out.1.set 0 _).set 1 _).set 2 _, ((HFI.out.2.1.setCell (p := ⟨bw, 0, none⟩) HFI.out.2.2 _).setCell (p := ⟨bw, 1, none⟩) HFI.out.2.2 _).setCell (p := ⟨bw, 2, none⟩) HFI.out.2.2 _, HFI.out.2.2⟩
    case rest =>
      obtain ⟨bw, ba, bc, rfl, rfl, Aw, Bw, lw⟩ := hcut
      obtain ⟨w1, hw1⟩ : ∃ w1, w1 = wc := ⟨_, rfl⟩
      subst hw1
      have HW1 : Hid (∀ W, Below w1.heap.size w1 W → Below w.heap.size w W ∧ AtC W w.heap.size 47 #[dx, dy, .slice (some ⟨g2, o2, none⟩) is.length c3, bv] ∧ W.cell? ⟨g2, o2 + j * 3, none⟩ = some (.int .i64 1) ∧ W.cell? ⟨g2, o2 + j * 3 + 1, none⟩ = some (.int .i64 ln) ∧ W.cell? ⟨g2, o2 + j * 3 + 2, none⟩ = some (.slice (some ⟨gp, op, none⟩) 2 sc) ∧ W.cell? ⟨gp, op, none⟩ = some (.int .i64 p0) ∧ W.cell? ⟨gp, op + 1, none⟩ = some (.int .i64 p1)) := fun W b => HW.out W (Bw.trans (b.mono Bw.size))
      have HA : Hid (∀ W, Below w1.heap.size w1 W → W.cell? ⟨bw, 2, none⟩ = some (.string btx)) := fun W b => (Aw.over b).cell 2
      have HLT := hide (And.intro Aw.lt (And.intro lw hsz0))
      clear Aw Bw HW CB0 lw
      go_upto_region 4 with fail
      go_cut [8, 9] from 51 to 64 (fun bv ok wx => ∃ (bw : Nat) (ba : Option Addr) (bc : Nat), bv = .pointer (some ⟨bw, 0, none⟩) ∧ ok = .bool G ∧ AtC wx bw 101 #[.bool cd, .slice ba css.length bc, .string ctx] ∧ Below w1.heap.size w1 wx ∧ w1.heap.size ≤ bw)
      case first =>
        refine wp_region_alt (by kernel_rfl) [0, 1, 2, 3, 4, 5, 6, 7, 8, 9, 10, 11, 12, 13, 14] [15, 16] [([0, 1, 2, 3, 4, 5, 6, 7, 8, 9, 10, 11, 12, 14], [[13, 15, 16], [15, 13, 16]])] (fun i => match i with | 0 => .const [] (.agg #[dx, dy, .slice (some ⟨g2, o2, none⟩) is.length c3, bv]) | 1 => .const [] (.pointer (some ⟨w.heap.size, 2, none⟩)) | 2 => .const [1] (.slice (some ⟨g2, o2, none⟩) is.length c3) | 3 => .const [] (.int .i64 ((j : Int) + 1)) | 4 => .const [3] (.int .i64 (j : Int)) | 5 => .const [2, 4] (.pointer (some ⟨g2, o2 + j * 3, none⟩)) | 6 => .const [5] (.pointer (some ⟨g2, o2 + j * 3 + 2, none⟩)) | 7 => .const [6] (.slice (some ⟨gp, op, none⟩) 2 sc) | 8 => .const [7] (.pointer (some ⟨gp, op + 1, none⟩)) | 9 => .const [8] (.int .i64 p1) | 10 => MkT2 [0, 9] (BlkR w cd ctx css G) BlkR.below | 11 => MkMv 10 | 12 => MkFs 11 | 13 => MkSd 11 | 14 => MkW 101 #[.bool false, .slice none 0 0, .string ⟨#[]⟩] | _ => .triv) (fun x => ⟨List.toArray ((Value.agg #[dx, dy, Value.slice (some { block := g2, off := o2 }) is.length c3, bv]) :: (Value.int IntKind.i64 (↑j + 1)) :: (Value.pointer (some { block := w.heap.size, off := 0 })) :: (undef) :: (Value.string { data := #[] }) :: (Value.string { data := #[] }) :: (Value.pointer (some { block := bw, off := 0 })) :: (Value.bool F) :: (x 14) :: (undef) :: (Value.int IntKind.i64 (↑j + 1)) :: (Value.pointer (some { block := w.heap.size, off := 2 })) :: (Value.slice (some { block := g2, off := o2 }) is.length c3) :: (Value.int IntKind.i64 ↑is.length) :: (Value.bool true) :: (Value.bool false) :: (Value.bool false) :: (Value.pointer (some { block := w.heap.size, off := 2 })) :: (Value.slice (some { block := g2, off := o2 }) is.length c3) :: (Value.int IntKind.i64 (↑j + 1)) :: (Value.int IntKind.i64 ↑j) :: (Value.pointer (some { block := g2, off := o2 + j * 3 })) :: (Value.pointer (some { block := g2, off := o2 + j * 3 })) :: (Value.int IntKind.i64 1) :: (Value.bool false) :: (Value.bool false) :: (Value.bool false) :: (Value.pointer (some { block := w.heap.size, off := 2 })) :: (Value.slice (some { block := g2, off := o2 }) is.length c3) :: (Value.int IntKind.i64 (↑j + 1)) :: (Value.int IntKind.i64 ↑j) :: (Value.pointer (some { block := g2, off := o2 + j * 3 })) :: (Value.pointer (some { block := g2, off := o2 + j * 3 + 2 })) :: (Value.slice (some { block := gp, off := op }) 2 sc) :: (Value.int IntKind.i64 2) :: (Value.bool false) :: (Value.bool false) :: (u37) :: (u38) :: (u39) :: (u40) :: (u41) :: (u42) :: (u43) :: (u44) :: (u45) :: (u46) :: (u47) :: (u48) :: (u49) :: (u50) :: (x 11) :: (x 0) :: (x 1) :: (x 2) :: (x 3) :: (x 4) :: (x 5) :: (x 6) :: (x 7) :: (x 8) :: (x 9) :: (x 10) :: (x 12) :: (x 13) :: (undef) :: (undef) :: (undef) :: (undef) :: []), []⟩) (fun i => match i with | 0 => undef | 1 => undef | 2 => undef | 3 => undef | 4 => undef | 5 => undef | 6 => undef | 7 => undef | 8 => undef | 9 => undef | 10 => undef | 11 => undef | 12 => undef | 13 => undef | 14 => undef | _ => undef) rfl (makersOk2_of (by kernel_rfl) (by kernel_rfl)) (by kernel_rfl) (by kernel_rfl) (by kernel_rfl) rfl ?_ ?_ ?_
        · intro jo hj so x iw W hd hp K hK
          simp only [List.mem_cons, List.not_mem_nil, or_false] at hj
          rcases hj with rfl | rfl | rfl | rfl | rfl | rfl | rfl | rfl | rfl | rfl | rfl | rfl | rfl | rfl | rfl
          · refine wpOp_step (o := _) rfl fun K' hK' => ?_
            have HK := hide (fun (v : Value) (W' : World) h1 h2 => hK' _ _ (hK v W' h1 h2))
            simp only [upd, Nat.reduceEqDiff, if_true, if_false] at HK
            have bw := of_drew hp.bel
            obtain ⟨qb, qd, q0, q1, q2, q3, q4⟩ := HW1.out W bw
            have k0 : W.cell? ⟨w.heap.size, 0, none⟩ = some (dx) := qd.cell 0
            have k1 : W.cell? ⟨w.heap.size, 1, none⟩ = some (dy) := qd.cell 1
            have k2 : W.cell? ⟨w.heap.size, 2, none⟩ = some (.slice (some ⟨g2, o2, none⟩) is.length c3) := qd.cell 2
            have k3 : W.cell? ⟨w.heap.size, 3, none⟩ = some (bv) := qd.cell 3
            clear bw qb qd q0 q1 q2 q3 q4
            clear hK hK' hp hd
            go_simp
            exact HK.out _ _ (Below.refl _ _) rfl
          · refine wpOp_step (o := _) rfl fun K' hK' => ?_
            have HK := hide (fun (v : Value) (W' : World) h1 h2 => hK' _ _ (hK v W' h1 h2))
            simp only [upd, Nat.reduceEqDiff, if_true, if_false] at HK
            clear hK hK' hp hd
            go_simp
            exact HK.out _ _ (Below.refl _ _) rfl
          · refine wpOp_step (o := _) rfl fun K' hK' => ?_
            have HK := hide (fun (v : Value) (W' : World) h1 h2 => hK' _ _ (hK v W' h1 h2))
            simp only [upd, Nat.reduceEqDiff, if_true, if_false] at HK
            have e1 : x 1 = .pointer (some ⟨w.heap.size, 2, none⟩) := hp.post 1 (hd 1 (show 1 ∈ [1] from by decide))
            have bw := of_drew hp.bel
            obtain ⟨qb, qd, q0, q1, q2, q3, q4⟩ := HW1.out W bw
            have k1 : W.cell? ⟨w.heap.size, 2, none⟩ = some (.slice (some ⟨g2, o2, none⟩) is.length c3) := qd.cell 2
            clear bw qb qd q0 q1 q2 q3 q4
            clear hK hK' hp hd
            simp only [e1] at HK ⊢
            go_simp
            exact HK.out _ _ (Below.refl _ _) rfl
          · refine wpOp_step (o := _) rfl fun K' hK' => ?_
            have HK := hide (fun (v : Value) (W' : World) h1 h2 => hK' _ _ (hK v W' h1 h2))
            simp only [upd, Nat.reduceEqDiff, if_true, if_false] at HK
            clear hK hK' hp hd
            go_simp
            exact HK.out _ _ (Below.refl _ _) rfl
          · refine wpOp_step (o := _) rfl fun K' hK' => ?_
            have HK := hide (fun (v : Value) (W' : World) h1 h2 => hK' _ _ (hK v W' h1 h2))
            simp only [upd, Nat.reduceEqDiff, if_true, if_false] at HK
            have e3 : x 3 = .int .i64 ((j : Int) + 1) := hp.post 3 (hd 3 (show 3 ∈ [3] from by decide))
            clear hK hK' hp hd
            simp only [e3] at HK ⊢
            go_simp
            exact HK.out _ _ (Below.refl _ _) rfl
          · refine wpOp_step (o := _) rfl fun K' hK' => ?_
            have HK := hide (fun (v : Value) (W' : World) h1 h2 => hK' _ _ (hK v W' h1 h2))
            simp only [upd, Nat.reduceEqDiff, if_true, if_false] at HK
            have e2 : x 2 = .slice (some ⟨g2, o2, none⟩) is.length c3 := hp.post 2 (hd 2 (show 2 ∈ [2, 4] from by decide))
            have e4 : x 4 = .int .i64 (j : Int) := hp.post 4 (hd 4 (show 4 ∈ [2, 4] from by decide))
            clear hK hK' hp hd
            simp only [e2, e4] at HK ⊢
            go_simp
            exact HK.out _ _ (Below.refl _ _) rfl
          · refine wpOp_step (o := _) rfl fun K' hK' => ?_
            have HK := hide (fun (v : Value) (W' : World) h1 h2 => hK' _ _ (hK v W' h1 h2))
            simp only [upd, Nat.reduceEqDiff, if_true, if_false] at HK
            have e5 : x 5 = .pointer (some ⟨g2, o2 + j * 3, none⟩) := hp.post 5 (hd 5 (show 5 ∈ [5] from by decide))
            clear hK hK' hp hd
            simp only [e5] at HK ⊢
            go_simp
            exact HK.out _ _ (Below.refl _ _) rfl
          · refine wpOp_step (o := _) rfl fun K' hK' => ?_
            have HK := hide (fun (v : Value) (W' : World) h1 h2 => hK' _ _ (hK v W' h1 h2))
            simp only [upd, Nat.reduceEqDiff, if_true, if_false] at HK
            have e6 : x 6 = .pointer (some ⟨g2, o2 + j * 3 + 2, none⟩) := hp.post 6 (hd 6 (show 6 ∈ [6] from by decide))
            have bw := of_drew hp.bel
            obtain ⟨qb, qd, q0, q1, q2, q3, q4⟩ := HW1.out W bw
            clear bw qb qd q0 q1 q3 q4
            clear hK hK' hp hd
            simp only [e6] at HK ⊢
            go_simp
            exact HK.out _ _ (Below.refl _ _) rfl
          · refine wpOp_step (o := _) rfl fun K' hK' => ?_
            have HK := hide (fun (v : Value) (W' : World) h1 h2 => hK' _ _ (hK v W' h1 h2))
            simp only [upd, Nat.reduceEqDiff, if_true, if_false] at HK
            have e7 : x 7 = .slice (some ⟨gp, op, none⟩) 2 sc := hp.post 7 (hd 7 (show 7 ∈ [7] from by decide))
            clear hK hK' hp hd
            simp only [e7] at HK ⊢
            go_simp
            exact HK.out _ _ (Below.refl _ _) rfl
          · refine wpOp_step (o := _) rfl fun K' hK' => ?_
            have HK := hide (fun (v : Value) (W' : World) h1 h2 => hK' _ _ (hK v W' h1 h2))
            simp only [upd, Nat.reduceEqDiff, if_true, if_false] at HK
            have e8 : x 8 = .pointer (some ⟨gp, op + 1, none⟩) := hp.post 8 (hd 8 (show 8 ∈ [8] from by decide))
            have bw := of_drew hp.bel
            obtain ⟨qb, qd, q0, q1, q2, q3, q4⟩ := HW1.out W bw
            clear bw qb qd q0 q1 q2 q3
            clear hK hK' hp hd
            simp only [e8] at HK ⊢
            go_simp
            exact HK.out _ _ (Below.refl _ _) rfl
          · refine wpOp_step (o := _) rfl fun K' hK' => ?_
            have HK := hide (fun (v : Value) (W' : World) h1 h2 => hK' _ _ (hK v W' h1 h2))
            simp only [upd, Nat.reduceEqDiff, if_true, if_false] at HK
            have e0 : x 0 = .agg #[dx, dy, .slice (some ⟨g2, o2, none⟩) is.length c3, bv] := hp.post 0 (hd 0 (show 0 ∈ [0, 9] from by decide))
            have e9 : x 9 = .int .i64 p1 := hp.post 9 (hd 9 (show 9 ∈ [0, 9] from by decide))
            have dr := (HW1.out W (of_drew hp.bel)).1
            clear hK hK' hp hd
            simp only [e0, e9] at HK ⊢
            clear e0 e9
            go_simp
            refine (CB1.out W dr).mono ?_
            rintro e w6 ⟨sv, rfl, R6, B6⟩
            obtain ⟨ba, bc, rfl, hR6⟩ := R6
            go_simp
            exact HK.out _ _ B6 ⟨_, _, rfl, ba, bc, rfl, rfl, ba, bc, rfl, hR6⟩
          · refine wpOp_step (o := _) rfl fun K' hK' => ?_
            have HK := hide (fun (v : Value) (W' : World) h1 h2 => hK' _ _ (hK v W' h1 h2))
            simp only [upd, Nat.reduceEqDiff, if_true, if_false] at HK
            have e10 : ∃ a r, x 10 = .tuple #[a, r] ∧ BlkR w cd ctx css G (iw 10).1 (iw 10).2 W a r := hp.post 10 (hd 10 (show 10 ∈ [10] from by decide))
            clear hK hK' hp hd
            obtain ⟨a, r, e10, -⟩ := e10
            have ea := hide e10
            simp only [e10] at HK ⊢
            clear e10
            go_simp
            exact HK.out _ _ (Below.refl _ _) ⟨ea.out, a, r, rfl⟩
          · refine wpOp_step (o := _) rfl fun K' hK' => ?_
            have HK := hide (fun (v : Value) (W' : World) h1 h2 => hK' _ _ (hK v W' h1 h2))
            simp only [upd, Nat.reduceEqDiff, if_true, if_false] at HK
            have e11 : x 10 = x 11 ∧ ∃ a r, x 11 = .tuple #[a, r] := hp.post 11 (hd 11 (show 11 ∈ [11] from by decide))
            clear hK hK' hp hd
            obtain ⟨-, a, r, e11⟩ := e11
            have ea : Hid (a = fstOf (x 11)) := by rw [e11]; rfl
            simp only [e11] at HK ⊢
            clear e11
            go_simp
            exact HK.out _ _ (Below.refl _ _) ea.out
          · refine wpOp_step (o := _) rfl fun K' hK' => ?_
            have HK := hide (fun (v : Value) (W' : World) h1 h2 => hK' _ _ (hK v W' h1 h2))
            simp only [upd, Nat.reduceEqDiff, if_true, if_false] at HK
            have e11 : x 10 = x 11 ∧ ∃ a r, x 11 = .tuple #[a, r] := hp.post 11 (hd 11 (show 11 ∈ [11] from by decide))
            clear hK hK' hp hd
            obtain ⟨-, a, r, e11⟩ := e11
            have ea : Hid (r = sndOf (x 11)) := by rw [e11]; rfl
            simp only [e11] at HK ⊢
            clear e11
            go_simp
            exact HK.out _ _ (Below.refl _ _) ea.out
          · refine wpOp_step (o := _) rfl fun K' hK' => ?_
            have HK := hide (fun (v : Value) (W' : World) h1 h2 => hK' _ _ (hK v W' h1 h2))
            simp only [upd, Nat.reduceEqDiff, if_true, if_false] at HK
            clear hK hK' hp hd
            go_simp
            exact HK.out _ _ ((Below.refl _ W).alloc (Nat.le_refl _) _) ⟨rfl, by simp, AtC.new W 101 _⟩
        · intro x iw W hp
          obtain ⟨a, r, e10, R10⟩ := hp.post 10 (by decide)
          obtain ⟨e11, -⟩ := hp.post 11 (by decide)
          have e12 : x 12 = fstOf (x 11) := hp.post 12 (by decide)
          have e13 : x 13 = sndOf (x 11) := hp.post 13 (by decide)
          obtain ⟨e14, z14, A14⟩ := hp.post 14 (by decide)
          have l14 := hp.lo 14 (by decide)
          have lc := hp.lo 10 (by decide)
          have bel := of_drew hp.bel
          have ap := hp.apart 10 (by decide) 14 (by decide) (by decide)
          rw [← e11, e10] at e12
          rw [← e11, e10] at e13
          replace e13 : x 13 = r := e13
          rw [e10] at e11
          replace e11 := e11.symm
          replace e12 : x 12 = a := e12
          have y0 : W.cell? ⟨(iw 14).1, 0, none⟩ = some (.bool false) := A14.cell 0
          have f0 := A14.frozen 0
          have y1 : W.cell? ⟨(iw 14).1, 1, none⟩ = some (.slice none 0 0) := A14.cell 1
          have f1 := A14.frozen 1
          have y2 : W.cell? ⟨(iw 14).1, 2, none⟩ = some (.string ⟨#[]⟩) := A14.cell 2
          have f2 := A14.frozen 2
          obtain ⟨ba, bc, rfl, rfl, hR⟩ := R10
          have hb14 : w1.heap.size ≤ (iw 14).1 := l14.1
          have HFI : Hid (AtC W (iw 14).1 101 #[.bool false, .slice none 0 0, .string ⟨#[]⟩] ∧ Below w1.heap.size w1 W ∧ w1.heap.size ≤ (iw 14).1) := ⟨A14, bel, hb14⟩
          clear hp A14 hR bel ap lc l14 z14 hb14
          simp only [e11, e12, e14, e13] at *
          generalize (iw 14).1 = bw at *
          go_wp2_with fail
          try rw [List.filterMap_nil]
          try go_wp2_with fail
          go_meet
          exact ⟨bw, ba, bc, rfl, rfl, ((HFI.out.1.set 0 _).set 1 _).set 2 _, ((HFI.out.2.1.setCell (p := ⟨bw, 0, none⟩) HFI.out.2.2 _).setCell (p := ⟨bw, 1, none⟩) HFI.out.2.2 _).setCell (p := ⟨bw, 2, none⟩) HFI.out.2.2 _, HFI.out.2.2⟩
        · intro qa hqa l hl x iw W hp
          simp only [List.mem_cons, List.not_mem_nil, or_false] at hqa
          subst hqa
          simp only [List.mem_cons, List.not_mem_nil, or_false] at hl
          obtain ⟨a, r, e10, R10⟩ := hp.post 10 (by decide)
          obtain ⟨e11, -⟩ := hp.post 11 (by decide)
          have e12 : x 12 = fstOf (x 11) := hp.post 12 (by decide)
          obtain ⟨e14, z14, A14⟩ := hp.post 14 (by decide)
          have l14 := hp.lo 14 (by decide)
          have lc := hp.lo 10 (by decide)
          have bel := of_drew hp.bel
          have ap := hp.apart 10 (by decide) 14 (by decide) (by decide)
          rw [← e11, e10] at e12
          rw [e10] at e11
          replace e11 := e11.symm
          replace e12 : x 12 = a := e12
          have y0 : W.cell? ⟨(iw 14).1, 0, none⟩ = some (.bool false) := A14.cell 0
          have f0 := A14.frozen 0
          have y1 : W.cell? ⟨(iw 14).1, 1, none⟩ = some (.slice none 0 0) := A14.cell 1
          have f1 := A14.frozen 1
          have y2 : W.cell? ⟨(iw 14).1, 2, none⟩ = some (.string ⟨#[]⟩) := A14.cell 2
          have f2 := A14.frozen 2
          obtain ⟨ba, bc, rfl, rfl, hR⟩ := R10
          have hb14 : w1.heap.size ≤ (iw 14).1 := l14.1
          have HFI : Hid (AtC W (iw 14).1 101 #[.bool false, .slice none 0 0, .string ⟨#[]⟩] ∧ Below w1.heap.size w1 W ∧ w1.heap.size ≤ (iw 14).1) := ⟨A14, bel, hb14⟩
          clear hp A14 hR bel ap lc l14 z14 hb14
          simp only [e11, e12, e14] at *
          generalize (iw 14).1 = bw at *
          rcases hl with rfl | rfl
          · go_wp2_with fail
            try rw [List.filterMap_nil]
            try go_wp2_with fail
            go_meet
            exact ⟨bw, ba, bc, rfl, rfl, ((HFI.out.1.set 0 _).set 1 _).set 2 _, ((HFI.out.2.1.setCell (p := ⟨bw, 0, none⟩) HFI.out.2.2 _).setCell (p := ⟨bw, 1, none⟩) HFI.out.2.2 _).setCell (p := ⟨bw, 2, none⟩) HFI.out.2.2 _, HFI.out.2.2⟩
          · go_wp2_with fail
            try rw [List.filterMap_nil]
            try go_wp2_with fail
            go_meet
            exact ⟨bw, ba, bc, rfl, rfl, ((HFI.out.1.set 0 _).set 1 _).set 2 _, ((HFI.out.2.1.setCell (p := ⟨bw, 0, none⟩) HFI.out.2.2 _).setCell (p := ⟨bw, 1, none⟩) HFI.out.2.2 _).setCell (p := ⟨bw, 2, none⟩) HFI.out.2.2 _, HFI.out.2.2⟩
      case rest =>
        obtain ⟨bw2, ba2, bc2, rfl, rfl, Aw, Bw, lw⟩ := hcut
        have z2 : wc.cell? ⟨bw2, 2, none⟩ = some (.string ctx) := Aw.cell 2
        have z1 : wc.cell? ⟨bw, 2, none⟩ = some (.string btx) := HA.out _ Bw
        have HF := hide (HW1.out _ Bw).1
        clear Aw Bw HW1 HA CB1 lw
        go_wp2
        go_quiet (fail)
        go_wp2
        go_ret2
        exact ⟨rfl, below_drewN HF.out _⟩
end Go.Proofs.YtmjhgfkplolelaaGreat
/- The order of texts, sorted lists of nodes. No Go function is spoken of. -/
namespace Go.Proofs.YtmjhgfkplolelaaGreat
open Go.RowKit Kit
/-- Less, byte by byte. -/
abbrev bl := Op.bytesLess
theorem bl_irrefl : ∀ a : List UInt8, bl a a = false
  | [] => rfl
  | x :: r => by
    have := bl_irrefl r
    simp [bl, Op.bytesLess] at this ⊢
    exact this
theorem bl_cons {x y : UInt8} {a b : List UInt8} : bl (x :: a) (y :: b) = true ↔ x < y ∨ (x = y ∧ bl a b = true) := by
  simp [bl, Op.bytesLess]
theorem bl_asymm : ∀ {a b : List UInt8}, bl a b = true → bl b a = false
  | [], [], h => by simp [bl, Op.bytesLess] at h
  | [], _ :: _, _ => by simp [bl, Op.bytesLess]
  | _ :: _, [], h => by simp [bl, Op.bytesLess] at h
  | x :: a, y :: b, h => by
    cases e : bl (y :: b) (x :: a) with
    | false => rfl
    | true =>
      rcases bl_cons.1 h with h1 | ⟨rfl, h1⟩
      · rcases bl_cons.1 e with h2 | ⟨rfl, h2⟩
        · exact absurd h1 (UInt8.lt_asymm h2)
        · exact absurd h1 (UInt8.lt_irrefl _)
      · rcases bl_cons.1 e with h2 | ⟨_, h2⟩
        · exact absurd h2 (UInt8.lt_irrefl _)
        · rw [bl_asymm h1] at h2; cases h2
theorem bl_total : ∀ {a b : List UInt8}, bl a b = false → bl b a = false → a = b
  | [], [], _, _ => rfl
  | [], _ :: _, h, _ => by simp [bl, Op.bytesLess] at h
  | _ :: _, [], _, h => by simp [bl, Op.bytesLess] at h
  | x :: a, y :: b, h, h' => by
    have h1 : ¬ (x < y ∨ (x = y ∧ bl a b = true)) := fun e => by rw [bl_cons.2 e] at h; cases h
    have h2 : ¬ (y < x ∨ (y = x ∧ bl b a = true)) := fun e => by rw [bl_cons.2 e] at h'; cases h'
    have e : x = y := by
      have a1 : ¬ x < y := fun e => h1 (.inl e)
      have a2 : ¬ y < x := fun e => h2 (.inl e)
      exact UInt8.le_antisymm (UInt8.not_lt.1 a2) (UInt8.not_lt.1 a1)
    subst e
    rw [bl_total (a := a) (b := b)]
    · cases q : bl a b with
      | false => rfl
      | true => exact absurd (.inr ⟨rfl, q⟩) h1
    · cases q : bl b a with
      | false => rfl
      | true => exact absurd (.inr ⟨rfl, q⟩) h2
theorem bl_trans {a b c : List UInt8} (h : bl a b = true) (h' : bl b c = true) : bl a c = true := by
  induction a generalizing b c with
  | nil =>
    cases c with
    | nil => cases b <;> simp [bl, Op.bytesLess] at h'
    | cons z c => simp [bl, Op.bytesLess]
  | cons x a ih =>
    cases b with
    | nil => simp [bl, Op.bytesLess] at h
    | cons y b =>
      cases c with
      | nil => simp [bl, Op.bytesLess] at h'
      | cons z c =>
        rcases bl_cons.1 h with h1 | ⟨rfl, h1⟩
        · rcases bl_cons.1 h' with h2 | ⟨rfl, h2⟩
          · exact bl_cons.2 (.inl (UInt8.lt_trans h1 h2))
          · exact bl_cons.2 (.inl h1)
        · rcases bl_cons.1 h' with h2 | ⟨rfl, h2⟩
          · exact bl_cons.2 (.inl h2)
          · exact bl_cons.2 (.inr ⟨rfl, ih h1 h2⟩)
/-- Not greater is passed on. -/
theorem bl_le_trans {a b c : List UInt8} (h1 : bl b a = false) (h2 : bl c b = false) : bl c a = false := by
  cases e : bl c a with
  | false => rfl
  | true =>
    cases e2 : bl a b with
    | true => rw [bl_trans e e2] at h2; cases h2
    | false =>
      have := bl_total h1 e2
      subst this
      rw [h2] at e; cases e
theorem bl_gt (a b : List UInt8) : (!(Op.bytesLess a b || a == b)) = bl b a := by
  cases e : bl a b with
  | true => rw [bl_asymm e, show Op.bytesLess a b = true from e]; rfl
  | false =>
    rw [show Op.bytesLess a b = false from e, Bool.false_or]
    cases e2 : bl b a with
    | true =>
      have : ¬ a = b := fun q => by subst q; rw [bl_irrefl] at e2; cases e2
      simp [this]
    | false =>
      have := bl_total e e2
      simp [this]
theorem swap_perm {α : Type} : ∀ (q : Nat) (l : List α) (h : q + 1 < l.length), ((l.set (q + 1) (l[q]'(by omega))).set q l[q + 1]).Perm l
  | 0, x :: y :: r, _ => by simpa using List.Perm.swap x y r
  | 0, [_], h => by simp at h
  | 0, [], h => by simp at h
  | q + 1, [], h => by simp at h
  | q + 1, x :: r, h => by
    have := swap_perm q r (by simpa using h)
    simpa using this
end Go.Proofs.YtmjhgfkplolelaaGreat
/- A new list without any. No Go function is spoken of. -/
namespace Go.Proofs.YtmjhgfkplolelaaGreat.Kit
open Go.RowKit
theorem AtC.empty {w : World} {g : Nat} {T : TypeId} (h : AtC w g T #[]) (B : Nat) (hB : B ≤ g) (m : Nat) : w.ownsRow B T m (.slice (some ⟨g, 0, none⟩) 0 0) 0 [] :=
  ⟨by simp, .inr ⟨g, 0, #[], rfl, hB, h, Nat.le_refl _, Nat.zero_le _, by simp, by simp⟩⟩
end Go.Proofs.YtmjhgfkplolelaaGreat.Kit
/- Lists of nodes of a life's model: rows of four cells. No Go function is spoken of. -/
namespace Go.Proofs.YtmjhgfkplolelaaGreat.Kit
open Go.RowKit
theorem NOwns.rc {w : World} {e : TypeId} {n : Nat} {v : Value} {ts : List Row} (h : NOwns w e n v ts) : RC w v ts.length ts.flatten := by
  have hf := flat_length h.1
  rcases h.2.2 with ⟨h1, h0⟩ | ⟨g, cap, cur, rfl, h2, h3, h4, h5, h6, h7⟩
  · have : ts = [] := List.length_eq_zero_iff.mp h0
    subst this
    obtain ⟨a, c, e1, -⟩ := h.form
    exact ⟨a, c, e1, fun j u hj => by simp at hj⟩
  · have h' : w.ownsRow 0 e n (.slice (some ⟨g, 0, none⟩) ts.length cap) ts.length ts.flatten := h.2
    refine ⟨_, _, rfl, fun j u hj => ⟨g, 0, rfl, ?_⟩⟩
    rw [Nat.zero_add]
    exact (h'.cellAt j (by have := List.getElem?_eq_some_iff.mp hj; obtain ⟨q, -⟩ := this; omega)).trans hj
/-- A node: its path, whether it is a directory, its texts. -/
abbrev Nd := ByteArray × Bool × ByteArray × ByteArray
def ndRow (x : Nd) : Row := [.string x.1, .bool x.2.1, .string x.2.2.1, .string x.2.2.2]
/-- A list of nodes of its own, in blocks from B on. -/
def NdO (w : World) (B : Nat) (v : Value) (ns : List Nd) : Prop := NOwns w 78 4 v (ns.map ndRow) ∧ ∀ k, v.ownBlock = some k → B ≤ k
namespace NdO
variable {w w' : World} {B : Nat} {v : Value} {ns : List Nd}
theorem lt (h : NdO w B v ns) : ∀ k, v.ownBlock = some k → B ≤ k ∧ k < w.heap.size := fun k hk => ⟨h.2 k hk, h.1.lt k hk⟩
theorem of_heap (h : NdO w B v ns) (hh : ∀ k, v.ownBlock = some k → w'.heap[k]? = w.heap[k]?) : NdO w' B v ns := ⟨h.1.of_heap hh, h.2⟩
theorem below (h : NdO w B v ns) (hb : Below w.heap.size w w') : NdO w' B v ns := h.of_heap fun k hk => hb.block k (h.lt k hk).2
theorem mono {B' : Nat} (h : NdO w B v ns) (hB : B' ≤ B) : NdO w B' v ns := ⟨h.1, fun k hk => Nat.le_trans hB (h.2 k hk)⟩
theorem nil (w : World) (B : Nat) : NdO w B (.slice none 0 0) [] := ⟨NOwns.nil _ _ _, fun k hk => by simp [Value.ownBlock] at hk⟩
theorem lit0 (w : World) : NdO (w.alloc (.cells #[] 78)) w.heap.size (.slice (some ⟨w.heap.size, 0, none⟩) 0 0) [] := by
  refine ⟨?_, fun k hk => by simp [Value.ownBlock] at hk; omega⟩
  have := NOwns.of_at (n := 4) (ts := []) (AtC.new w 78 #[]) rfl (Even.nil _) (Nat.zero_le _)
  simpa using this
theorem form (h : NdO w B v ns) : ∃ a cap, v = .slice a ns.length cap := by
  obtain ⟨a, cap, e, -⟩ := h.1.form
  rw [List.length_map] at e
  exact ⟨a, cap, e⟩
theorem rc (h : NdO w B v ns) : RC w v ns.length (ns.map ndRow).flatten := by
  have := h.1.rc
  rwa [List.length_map] at this
theorem at_ (h : NdO w B v ns) (j : Nat) (hj : j < ns.length) : ∃ g cap, v = .slice (some ⟨g, 0, none⟩) ns.length cap ∧ w.cell? ⟨g, j * 4, none⟩ = some (.string ns[j].1) ∧ w.cell? ⟨g, j * 4 + 1, none⟩ = some (.bool ns[j].2.1) ∧ w.cell? ⟨g, j * 4 + 2, none⟩ = some (.string ns[j].2.2.1) ∧ w.cell? ⟨g, j * 4 + 3, none⟩ = some (.string ns[j].2.2.2) ∧ (∀ k, w.frozen? ⟨g, k, none⟩ = false) ∧ g < w.heap.size ∧ B ≤ g := by
  obtain ⟨g, cap, e, hc, hf, hg, -⟩ := h.1.at j (by rw [List.length_map]; exact hj)
  rw [List.length_map] at e
  refine ⟨g, cap, e, ?_, ?_, ?_, ?_, hf, hg, h.2 g (by rw [e]; rfl)⟩
  · have := hc 0 (by decide); rw [List.getElem_map] at this; exact this
  · have := hc 1 (by decide); rw [List.getElem_map] at this; exact this
  · have := hc 2 (by decide); rw [List.getElem_map] at this; exact this
  · have := hc 3 (by decide); rw [List.getElem_map] at this; exact this
/-- A row is stored. -/
theorem put {g cap : Nat} (h : NdO w B (.slice (some ⟨g, 0, none⟩) ns.length cap) ns) (j : Nat) (hj : j < ns.length) (x : Nd) : NdO ((((w.setCell ⟨g, j * 4, none⟩ (.string x.1)).setCell ⟨g, j * 4 + 1, none⟩ (.bool x.2.1)).setCell ⟨g, j * 4 + 2, none⟩ (.string x.2.2.1)).setCell ⟨g, j * 4 + 3, none⟩ (.string x.2.2.2)) B (.slice (some ⟨g, 0, none⟩) ns.length cap) (ns.set j x) := by
  refine ⟨?_, h.2⟩
  have h1 : NOwns w 78 4 (.slice (some ⟨g, 0, none⟩) (ns.map ndRow).length cap) (ns.map ndRow) := by rw [List.length_map]; exact h.1
  have := NOwns.setRow j (ndRow x) w (ns.map ndRow) (by rw [List.length_map]; exact hj) [] h1 rfl (by simp)
  rw [List.length_map] at this
  rw [List.map_set]
  exact this
end NdO
end Go.Proofs.YtmjhgfkplolelaaGreat.Kit
/- Lists of nodes: rows of four cells, how they are read and owned. No Go function is spoken of. -/
namespace Go.Proofs.YtmjhgfkplolelaaGreat.Kit
open Go.RowKit
def ndc (x : Nd) : List Value := [.string x.1, .bool x.2.1, .string x.2.2.1, .string x.2.2.2]
/-- The slice value v reads as the nodes ns. -/
def RNd (w : World) (v : Value) (ns : List Nd) : Prop := ∃ a cap, v = .slice a ns.length cap ∧ ∀ (j : Nat) (h : j < ns.length), ∃ g off, a = some ⟨g, off, none⟩ ∧ g < w.heap.size ∧ w.cell? ⟨g, off + j * 4, none⟩ = some (.string ns[j].1) ∧ w.cell? ⟨g, off + j * 4 + 1, none⟩ = some (.bool ns[j].2.1) ∧ w.cell? ⟨g, off + j * 4 + 2, none⟩ = some (.string ns[j].2.2.1) ∧ w.cell? ⟨g, off + j * 4 + 3, none⟩ = some (.string ns[j].2.2.2)
theorem RNd.below {w w' : World} {B : Nat} {v : Value} {ns : List Nd} (h : RNd w v ns) (hb : Below B w w') (hB : w.heap.size ≤ B) : RNd w' v ns := by
  obtain ⟨a, cap, rfl, h⟩ := h
  refine ⟨a, cap, rfl, fun j hj => ?_⟩
  obtain ⟨g, off, e, hg, c0, c1, c2, c3⟩ := h j hj
  have hB' : g < B := Nat.lt_of_lt_of_le hg hB
  exact ⟨g, off, e, Nat.lt_of_lt_of_le hg hb.size, (hb.cell (p := ⟨g, off + j * 4, none⟩) hB').trans c0, (hb.cell (p := ⟨g, off + j * 4 + 1, none⟩) hB').trans c1, (hb.cell (p := ⟨g, off + j * 4 + 2, none⟩) hB').trans c2, (hb.cell (p := ⟨g, off + j * 4 + 3, none⟩) hB').trans c3⟩
theorem RNd.alloc {w : World} {v : Value} {ns : List Nd} (h : RNd w v ns) (o : Obj) : RNd (w.alloc o) v ns := h.below ((Below.refl _ w).alloc (Nat.le_refl _) o) (Nat.le_refl _)
theorem RNd.drew {w : World} {v : Value} {ns : List Nd} (h : RNd w v ns) : RNd w.drew v ns := h.below (Below.refl w.heap.size w).drew (Nat.le_refl _)
theorem RNd.form {w : World} {v : Value} {ns : List Nd} (h : RNd w v ns) : ∃ a c, v = .slice a ns.length c := by
  obtain ⟨a, c, h, _⟩ := h
  exact ⟨a, c, h⟩
/-- All cells of nodes, one behind the other. -/
def ndcs (ns : List Nd) : List Value := (ns.map ndc).flatten
theorem ndcs_length (ns : List Nd) : (ndcs ns).length = ns.length * 4 := by
  induction ns with
  | nil => rfl
  | cons x r ih => simp only [ndcs, List.map_cons, List.flatten_cons, List.length_append, List.length_cons] at ih ⊢; rw [ih]; simp [ndc]; omega
theorem ndcs_at (ns : List Nd) (j i : Nat) (hj : j < ns.length) (hi : i < 4) : (ndcs ns)[j * 4 + i]? = (ndc ns[j])[i]? := by
  induction ns generalizing j with
  | nil => simp at hj
  | cons x r ih =>
    have e : ndcs (x :: r) = ndc x ++ ndcs r := by simp [ndcs]
    have l4 : (ndc x).length = 4 := rfl
    rw [e]
    cases j with
    | zero => rw [Nat.zero_mul, Nat.zero_add, List.getElem?_append_left (by omega)]; rfl
    | succ j =>
      rw [List.getElem?_append_right (by omega), show (j + 1) * 4 + i - (ndc x).length = j * 4 + i by omega]
      exact ih j (by simpa using hj)
/-- The block g holds just these cells. -/
def At (w : World) (g : Nat) (T : TypeId) (cs : List Value) : Prop := w.heap[g]? = some (.cells cs.toArray T (0, 0))
theorem At.cell {w : World} {g : Nat} {T : TypeId} {cs : List Value} (h : At w g T cs) (k : Nat) : w.cell? ⟨g, k, none⟩ = cs[k]? := by
  have h' : w.heap[g]? = some (.cells cs.toArray T (0, 0)) := h
  simp [World.cell?, h']
theorem At.frozen {w : World} {g : Nat} {T : TypeId} {cs : List Value} (h : At w g T cs) (k : Nat) : w.frozen? ⟨g, k, none⟩ = false := by
  have h' : w.heap[g]? = some (.cells cs.toArray T (0, 0)) := h
  simp [World.frozen?, h']
theorem At.lt {w : World} {g : Nat} {T : TypeId} {cs : List Value} (h : At w g T cs) : g < w.heap.size := by
  have h' : w.heap[g]? = some (.cells cs.toArray T (0, 0)) := h
  rw [Array.getElem?_eq_some_iff] at h'
  exact h'.1
theorem At.new (w : World) (T : TypeId) (cs : List Value) : At (w.alloc (.cells cs.toArray T)) w.heap.size T cs := heap_new w _
theorem At.below {w w' : World} {g B : Nat} {T : TypeId} {cs : List Value} (h : At w g T cs) (hb : Below B w w') (hg : g < B) : At w' g T cs := (hb.block g hg).trans h
theorem At.set {w : World} {g : Nat} {T : TypeId} {cs : List Value} (h : At w g T cs) (k : Nat) (x : Value) : At (w.setCell ⟨g, k, none⟩ x) g T (cs.set k x) := by
  have h' : w.heap[g]? = some (.cells cs.toArray T (0, 0)) := h
  have := heap_setCell_same w g k cs.toArray T x h'
  simpa [At] using this
end Go.Proofs.YtmjhgfkplolelaaGreat.Kit
/- A list of nodes that comes in as an argument, opened: its texts. -/
namespace Go.Proofs.YtmjhgfkplolelaaGreat.open_
open Go.ChangeShapes Go.WideShapes Go.ChangeAt Go.RowKit Kit Go.Joins
set_option linter.unusedVariables false
variable {H : Type} {enc : TypeId × Value → H} {W : World}
def bigN (x : Nd) : Prop := x.1.size ≤ maxLen ∧ x.2.2.1.size ≤ maxLen ∧ x.2.2.2.size ≤ maxLen
theorem fields30 : ∃ f0 f1 f2 f3 : Field, Tryz.prog.underlying 77 = some (.struct #[f0, f1, f2, f3]) ∧ (f0.type = 9 ∧ f0.offset = 0) ∧ (f1.type = 4 ∧ f1.offset = 1) ∧ (f2.type = 9 ∧ f2.offset = 2) ∧ (f3.type = 9 ∧ f3.offset = 3) := ⟨_, _, _, _, Tryz.underlying77, ⟨rfl, rfl⟩, ⟨rfl, rfl⟩, ⟨rfl, rfl⟩, ⟨rfl, rfl⟩⟩
theorem c30 : Tryz.prog.cellsOf 77 = 4 := by kernel_rfl
theorem c9 : Tryz.prog.cellsOf 9 = 1 := by kernel_rfl
theorem c4 : Tryz.prog.cellsOf 4 = 1 := by kernel_rfl
set_option maxRecDepth 100000 in
theorem nodes_open {fuel : Nat} {c : Value} {y : DataW H × List MemPlace} (h : DataW.trod enc Tryz.prog W 0 (fun _ => true) true fuel 37 [c] = some y) : ∃ xs : List Nd, RNd W c xs ∧ xs.length ≤ maxLen ∧ ∀ (j : Nat) (h : j < xs.length), bigN xs[j] := by
  rcases Go.Deep.open_slice Tryz.underlying37 h with ⟨hcs, _⟩ | ⟨a, len, cap, m, n, D, Pl, hcs, hb, hl, hm, hmm, _, hx⟩
  · simp at hcs
    subst hcs
    exact ⟨[], ⟨none, 0, rfl, fun j hj => by simp at hj⟩, by simp, fun j hj => by simp at hj⟩
  · simp at hcs
    subst hcs
    have hlm : len ≤ m := by simp at hmm; omega
    have key : ∀ i, i < len → ∃ q : Nd, W.cell? (a.add (i * 4)) = some (.string q.1) ∧ W.cell? (a.add (i * 4 + 1)) = some (.bool q.2.1) ∧ W.cell? (a.add (i * 4 + 2)) = some (.string q.2.2.1) ∧ W.cell? (a.add (i * 4 + 3)) = some (.string q.2.2.2) ∧ bigN q := by
      intro i hi
      obtain ⟨cs', h1, h2⟩ := hx i (by omega)
      rw [c30] at h1
      obtain ⟨_, hlen, hcell⟩ := World.cells?_some h1
      obtain ⟨f0, f1, f2, f3, hu, ⟨t0, o0⟩, ⟨t1, o1⟩, ⟨t2, o2⟩, t3, o3⟩ := fields30
      obtain ⟨xs, k, hk, hxy, _, hxl, hf⟩ := DataW.trod_struct hu h2
      match xs, hxl, cs', hlen with
      | [y0, y1, y2, y3], _, [v0, v1, v2, v3], _ =>
        have g0 := hf 0 f0 rfl
        have g1 := hf 1 f1 rfl
        have g2 := hf 2 f2 rfl
        have g3 := hf 3 f3 rfl
        rw [t0, o0, c9] at g0
        rw [t1, o1, c4] at g1
        rw [t2, o2, c9] at g2
        rw [t3, o3, c9] at g3
        simp at g0 g1 g2 g3
        have e0 := hcell 0 (by omega)
        have e1 := hcell 1 (by omega)
        have e2 := hcell 2 (by omega)
        have e3 := hcell 3 (by omega)
        rw [Go.Deep.add_add] at e0 e1 e2 e3
        obtain ⟨s0, q0, -, b0⟩ := DataW.trod_string Tryz.underlying9 g0
        obtain ⟨s1, q1, -⟩ := DataW.trod_bool Tryz.underlying4 g1
        obtain ⟨s2, q2, -, b2⟩ := DataW.trod_string Tryz.underlying9 g2
        obtain ⟨s3, q3, -, b3⟩ := DataW.trod_string Tryz.underlying9 g3
        simp at q0 q1 q2 q3
        subst q0 q1 q2 q3
        exact ⟨(s0, s1, s2, s3), by simpa using e0, by simpa using e1, by simpa using e2, by simpa using e3, b0, b2, b3⟩
    obtain ⟨q, hq⟩ := Go.Deep.choose_lt key
    obtain ⟨b, off, spot⟩ := a
    have ha : spot = none → ∀ k, (⟨b, off, spot⟩ : Addr).add k = ⟨b, off + k, none⟩ := fun e k => by subst e; cases k <;> simp [Addr.add]
    refine ⟨(List.range len).map q, ⟨some ⟨b, off, spot⟩, cap, by simp, fun j hj => ?_⟩, by simp; omega, fun j hj => ?_⟩
    · have hj' : j < len := by simpa using hj
      have hspot : spot = none := by
        have := World.cell?_spot (hq 0 (by omega)).1
        simpa [Addr.add] using this
      obtain ⟨c0, c1, c2, c3, _⟩ := hq j hj'
      rw [ha hspot] at c0 c1 c2 c3
      simp only [List.getElem_map, List.getElem_range]
      exact ⟨b, off, by rw [hspot], block_lt_of_cell c0, c0, by rw [Nat.add_assoc]; exact c1, by rw [Nat.add_assoc]; exact c2, by rw [Nat.add_assoc]; exact c3⟩
    · have hj' : j < len := by simpa using hj
      simpa using (hq j hj').2.2.2.2
end Go.Proofs.YtmjhgfkplolelaaGreat.open_
