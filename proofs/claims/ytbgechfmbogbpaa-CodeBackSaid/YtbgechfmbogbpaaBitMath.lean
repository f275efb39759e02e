/-
  Plain mathematics of the layer bit: the bits of a string, the numbers that they make in either order, and what a reader holds behind a call. No program in this text.
-/
import Derived.Below
namespace Go.Proofs.Ytbgechfmbogbpaa.Bt

/-- The byte at a place, 0 behind the end. -/
def byt (l : List UInt8) (i : Nat) : Nat := (l.getD i 0).toNat
/-- Where in its byte a bit stands: in order 2 the most significant one is the first. -/
def plc (o : Int) (p : Nat) : Nat := if o = 2 then 7 - p % 8 else p % 8
def bitN (o : Int) (l : List UInt8) (p : Nat) : Nat := byt l (p / 8) / 2 ^ plc o p % 2
def valL (l : List UInt8) (p : Nat) : Nat → Nat
  | 0 => 0
  | n + 1 => valL l p n + bitN 1 l (p + n) * 2 ^ n
def valH (l : List UInt8) (p : Nat) : Nat → Nat
  | 0 => 0
  | n + 1 => 2 * valH l p n + bitN 2 l (p + n)
def valO (o : Int) (l : List UInt8) (p n : Nat) : Nat := if o = 2 then valH l p n else valL l p n

theorem bitN_lt (o : Int) (l : List UInt8) (p : Nat) : bitN o l p < 2 := Nat.mod_lt _ (by decide)
theorem valL_lt (l : List UInt8) (p : Nat) : ∀ n, valL l p n < 2 ^ n
  | 0 => by simp [valL]
  | n + 1 => by
    have h1 := valL_lt l p n
    have h2 := bitN_lt 1 l (p + n)
    have h3 : bitN 1 l (p + n) * 2 ^ n ≤ 1 * 2 ^ n := Nat.mul_le_mul_right _ (by omega)
    simp only [valL, Nat.pow_succ]
    omega
theorem valH_lt (l : List UInt8) (p : Nat) : ∀ n, valH l p n < 2 ^ n
  | 0 => by simp [valH]
  | n + 1 => by
    have h1 := valH_lt l p n
    have h2 := bitN_lt 2 l (p + n)
    simp only [valH, Nat.pow_succ]
    omega
theorem valO_lt (o : Int) (l : List UInt8) (p n : Nat) : valO o l p n < 2 ^ n := by
  unfold valO
  split
  · exact valH_lt l p n
  · exact valL_lt l p n

/-- A number out of two: the low bits first, or the high ones first. -/
theorem valL_add (l : List UInt8) (p a : Nat) : ∀ b, valL l p (a + b) = valL l p a + valL l (p + a) b * 2 ^ a
  | 0 => by simp [valL]
  | b + 1 => by
    have h := valL_add l p a b
    show valL l p (a + b) + bitN 1 l (p + (a + b)) * 2 ^ (a + b) = _ + (valL l (p + a) b + bitN 1 l (p + a + b) * 2 ^ b) * 2 ^ a
    rw [h, Nat.add_mul, Nat.mul_assoc, ← Nat.pow_add, Nat.add_comm b a, Nat.add_assoc, Nat.add_assoc]
theorem valH_add (l : List UInt8) (p a : Nat) : ∀ b, valH l p (a + b) = valH l p a * 2 ^ b + valH l (p + a) b
  | 0 => by simp [valH]
  | b + 1 => by
    have h := valH_add l p a b
    show 2 * valH l p (a + b) + bitN 2 l (p + (a + b)) = valH l p a * 2 ^ (b + 1) + (2 * valH l (p + a) b + bitN 2 l (p + a + b))
    rw [h, Nat.pow_succ, Nat.add_assoc p a b, Nat.mul_add, ← Nat.mul_assoc, Nat.mul_comm 2 (valH l p a), Nat.mul_assoc, Nat.mul_comm 2 (2 ^ b)]
    omega

/-- Can a number of n bits not be taken in the order o where the order set is ord? -/
def bad (ord n o : Int) : Bool := decide (n < 0) || decide (24 < n) || (decide (ord ≠ 0) && decide (ord ≠ o))
/-- The error, the number, the place and the order behind a call of Low (o = 1) or High (o = 2), on a string of so many bits. -/
def rdE (tot at_ : Nat) (ord n o : Int) : Int := if bad ord n o then 1 else if (tot : Int) - at_ < n then 4 else 0
def rdV (l : List UInt8) (tot at_ : Nat) (ord n o : Int) : Int := if rdE tot at_ ord n o = 0 then (valO o l at_ n.toNat : Nat) else 0
def rdAt (tot at_ : Nat) (ord n o : Int) : Nat := if rdE tot at_ ord n o = 0 then at_ + n.toNat else at_
def rdOrd (tot at_ : Nat) (ord n o : Int) : Int := if rdE tot at_ ord n o = 0 ∧ 0 < n then o else ord

theorem rd_bad {tot at_ : Nat} {ord n o : Int} {l : List UInt8} (h : bad ord n o = true) :
    rdE tot at_ ord n o = 1 ∧ rdV l tot at_ ord n o = 0 ∧ rdAt tot at_ ord n o = at_ ∧ rdOrd tot at_ ord n o = ord := by
  have e : rdE tot at_ ord n o = 1 := by unfold rdE; rw [if_pos h]
  unfold rdV rdAt rdOrd
  rw [e]
  simp
theorem rd_end {tot at_ : Nat} {ord n o : Int} {l : List UInt8} (h : bad ord n o = false) (hn : (tot : Int) - at_ < n) :
    rdE tot at_ ord n o = 4 ∧ rdV l tot at_ ord n o = 0 ∧ rdAt tot at_ ord n o = at_ ∧ rdOrd tot at_ ord n o = ord := by
  have e : rdE tot at_ ord n o = 4 := by unfold rdE; rw [h, if_neg (by decide), if_pos hn]
  unfold rdV rdAt rdOrd
  rw [e]
  simp
theorem rd_ok {tot at_ : Nat} {ord n o : Int} {l : List UInt8} (h : bad ord n o = false) (hn : n ≤ (tot : Int) - at_) :
    rdE tot at_ ord n o = 0 ∧ rdV l tot at_ ord n o = (valO o l at_ n.toNat : Nat) ∧ rdAt tot at_ ord n o = at_ + n.toNat ∧ rdOrd tot at_ ord n o = if 0 < n then o else ord := by
  have e : rdE tot at_ ord n o = 0 := by unfold rdE; rw [h, if_neg (by decide), if_neg (by omega)]
  unfold rdV rdAt rdOrd
  rw [e]
  simp
theorem bad_no {ord n o : Int} (h : bad ord n o = false) : 0 ≤ n ∧ n ≤ 24 ∧ (ord = 0 ∨ ord = o) := by
  unfold bad at h
  simp at h
  omega

/-- The place stays within the string, and the order one of three. -/
theorem rdAt_le {tot at_ : Nat} {ord n o : Int} (h : at_ ≤ tot) : rdAt tot at_ ord n o ≤ tot := by
  by_cases hb : bad ord n o = true
  · rw [(rd_bad (l := []) hb).2.2.1]; exact h
  · have hb' : bad ord n o = false := by simpa using hb
    by_cases hn : (tot : Int) - at_ < n
    · rw [(rd_end (l := []) hb' hn).2.2.1]; exact h
    · have := (bad_no hb').1
      rw [(rd_ok (l := []) hb' (by omega)).2.2.1]; omega
theorem rdOrd_in {tot at_ : Nat} {ord n o : Int} (h : ord = 0 ∨ ord = 1 ∨ ord = 2) (ho : o = 1 ∨ o = 2) : rdOrd tot at_ ord n o = 0 ∨ rdOrd tot at_ ord n o = 1 ∨ rdOrd tot at_ ord n o = 2 := by
  unfold rdOrd
  split
  · omega
  · exact h

/-- The next place that begins a byte. -/
def alg (at_ : Nat) : Nat := (at_ + 7) / 8 * 8
theorem alg_le {n at_ : Nat} (h : at_ ≤ 8 * n) : alg at_ ≤ 8 * n := by unfold alg; omega

/-- The error, the bytes and the place behind a call of Raw, on a string of n bytes. -/
def rawE (size at_ : Nat) (n : Int) : Int := if n < 0 ∨ at_ % 8 ≠ 0 then 1 else if (size : Int) - (at_ / 8 : Nat) < n then 4 else 0
def rawAt (size at_ : Nat) (n : Int) : Nat := if rawE size at_ n = 0 then at_ + 8 * n.toNat else at_
def rawB (s : ByteArray) (at_ : Nat) (n : Int) : ByteArray := if rawE s.size at_ n = 0 then s.extract (at_ / 8) (at_ / 8 + n.toNat) else ⟨#[]⟩
theorem raw_bad {s : ByteArray} {at_ : Nat} {n : Int} (h : n < 0 ∨ at_ % 8 ≠ 0) : rawE s.size at_ n = 1 ∧ rawAt s.size at_ n = at_ ∧ rawB s at_ n = ⟨#[]⟩ := by
  have e : rawE s.size at_ n = 1 := by unfold rawE; rw [if_pos h]
  unfold rawAt rawB
  rw [e]
  simp
theorem raw_end {s : ByteArray} {at_ : Nat} {n : Int} (h0 : 0 ≤ n) (h8 : at_ % 8 = 0) (hn : (s.size : Int) - (at_ / 8 : Nat) < n) : rawE s.size at_ n = 4 ∧ rawAt s.size at_ n = at_ ∧ rawB s at_ n = ⟨#[]⟩ := by
  have e : rawE s.size at_ n = 4 := by unfold rawE; rw [if_neg (by omega), if_pos hn]
  unfold rawAt rawB
  rw [e]
  simp
theorem raw_ok {s : ByteArray} {at_ : Nat} {n : Int} (h0 : 0 ≤ n) (h8 : at_ % 8 = 0) (hn : n ≤ (s.size : Int) - (at_ / 8 : Nat)) :
    rawE s.size at_ n = 0 ∧ rawAt s.size at_ n = at_ + 8 * n.toNat ∧ rawB s at_ n = s.extract (at_ / 8) (at_ / 8 + n.toNat) := by
  have e : rawE s.size at_ n = 0 := by unfold rawE; rw [if_neg (by omega), if_neg (by omega)]
  unfold rawAt rawB
  rw [e]
  simp
theorem rawAt_le {size at_ : Nat} {n : Int} (h : at_ ≤ 8 * size) : rawAt size at_ n ≤ 8 * size := by
  unfold rawAt
  split
  · rename_i he
    unfold rawE at he
    split at he
    · cases he
    · split at he
      · cases he
      · omega
  · exact h
end Go.Proofs.Ytbgechfmbogbpaa.Bt
