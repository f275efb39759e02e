/-
  Bits of small integers: 'or' of two numbers that share no bit, shifts by a variable, one bit of a byte.
-/
import Derived.Test.YtbgechfmbogbpaaBitMath
import Derived.Laws.BitsAllLaws
import Derived.IntWalk
import Derived.WalkKit
namespace Go.Proofs.Ytbgechfmbogbpaa
open Go.RowKit Bt

theorem ofInt_i64 (a : Nat) (ha : a < 9223372036854775808) : (BitVec.ofInt 64 (a : Int)).toNat = a := by
  rw [BitVec.ofInt_natCast, BitVec.toNat_ofNat]; exact Nat.mod_eq_of_lt (by omega)
theorem i64_or_nat (a b : Nat) (ha : a < 9223372036854775808) (hb : b < 9223372036854775808) : bits .or .i64 (a : Int) (b : Int) = ((a ||| b : Nat) : Int) := by
  have hx : a ||| b < 2 ^ 63 := Nat.or_lt_two_pow (by omega) (by omega)
  show IntKind.i64.wrap ((BitVec.ofInt 64 (a : Int) ||| BitVec.ofInt 64 (b : Int)).toNat : Int) = _
  rw [BitVec.toNat_or, ofInt_i64 a ha, ofInt_i64 b hb, IntKind.wrap_i64]
  omega
theorem i64_and_nat (a b : Nat) (ha : a < 9223372036854775808) (hb : b < 9223372036854775808) : bits .and .i64 (a : Int) (b : Int) = ((a &&& b : Nat) : Int) := by
  have hx : a &&& b < 2 ^ 63 := Nat.and_lt_two_pow _ (by omega)
  show IntKind.i64.wrap ((BitVec.ofInt 64 (a : Int) &&& BitVec.ofInt 64 (b : Int)).toNat : Int) = _
  rw [BitVec.toNat_and, ofInt_i64 a ha, ofInt_i64 b hb, IntKind.wrap_i64]
  omega

/-- Or of numbers that share no bit is the sum. -/
theorem or_add (v b k : Nat) (hv : v < 2 ^ k) : v ||| b * 2 ^ k = v + b * 2 ^ k := by
  rw [Nat.or_comm, Nat.mul_comm b, ← Nat.two_pow_add_eq_or_of_lt hv, Nat.add_comm]
theorem or_low (v b : Nat) (hb : b < 2) : 2 * v ||| b = 2 * v + b := by
  have h := Nat.two_pow_add_eq_or_of_lt (i := 1) (b := b) (by omega) v
  rw [Nat.pow_one] at h
  exact h.symm

theorem plc_lt (o : Int) (p : Nat) : plc o p < 8 := by unfold plc; split <;> omega
theorem byt_at (s : ByteArray) (i : Nat) (h : i < s.size) : byt s.data.toList i = s[i].toNat := by
  unfold byt
  rw [List.getD_eq_getElem?_getD, List.getElem?_eq_getElem (show i < s.data.toList.length by simpa using h)]
  rfl
/-- One bit of a byte, as the program takes it. -/
theorem bit_and (o : Int) (s : ByteArray) (a : Nat) (h : a / 8 < s.size) :
    wrap64 (bits .and .u8 ((s[a / 8].toNat : Int) / 2 ^ min (plc o a) 8) 1) = (bitN o s.data.toList a : Nat) := by
  have hp := plc_lt o a
  rw [Nat.min_eq_left (by omega)]
  have hb := s[a / 8].toNat_lt
  have hd : s[a / 8].toNat / 2 ^ plc o a ≤ s[a / 8].toNat := Nat.div_le_self _ _
  have e : ((s[a / 8].toNat : Int) / 2 ^ plc o a) = ((s[a / 8].toNat / 2 ^ plc o a : Nat) : Int) := by
    rw [Int.natCast_ediv]; congr 1
  rw [e, show (1 : Int) = ((1 : Nat) : Int) from rfl, u8_and_nat _ 1 (by omega) (by decide), Nat.and_one_is_mod]
  unfold bitN
  rw [byt_at s _ h]
  exact IntWalk.wrap64_in _ (by omega)
/-- The next low bit put before a number. -/
theorem low_step (l : List UInt8) (a k : Nat) (hk : k < 24) :
    bits .or .i64 (valL l a k : Nat) (wrap64 ((bitN 1 l (a + k) : Nat) * 2 ^ k)) = (valL l a (k + 1) : Nat) := by
  have h1 := valL_lt l a k
  have h2 := bitN_lt 1 l (a + k)
  have h3 : 2 ^ k < 2 ^ 24 := Nat.pow_lt_pow_right (by decide) hk
  have h4 : bitN 1 l (a + k) * 2 ^ k ≤ 1 * 2 ^ k := Nat.mul_le_mul_right _ (by omega)
  have h5 : (2 : Nat) ^ 24 = 16777216 := by decide
  rw [h5] at h3
  have e : ((bitN 1 l (a + k) : Nat) : Int) * 2 ^ k = ((bitN 1 l (a + k) * 2 ^ k : Nat) : Int) := by
    rw [Int.natCast_mul]; congr 1
  rw [e, IntWalk.wrap64_in _ (by omega), i64_or_nat _ _ (by omega) (by omega), or_add _ _ _ h1]
  rfl
/-- The next bit put behind a number. -/
theorem high_step (l : List UInt8) (a k : Nat) (hk : k < 24) :
    bits .or .i64 (wrap64 ((valH l a k : Nat) * 2)) (bitN 2 l (a + k) : Nat) = (valH l a (k + 1) : Nat) := by
  have h1 := valH_lt l a k
  have h2 := bitN_lt 2 l (a + k)
  have h3 : 2 ^ k < 2 ^ 24 := Nat.pow_lt_pow_right (by decide) hk
  have h5 : (2 : Nat) ^ 24 = 16777216 := by decide
  rw [h5] at h3
  rw [show (((valH l a k : Nat) : Int) * 2) = ((2 * valH l a k : Nat) : Int) by omega, IntWalk.wrap64_in _ (by omega), i64_or_nat _ _ (by omega) (by omega), or_low _ _ h2]
  rfl
/-- One bit of a byte, as the document's reader takes it. -/
theorem ref_bit (o : Int) (s : ByteArray) (p e : Nat) (h : p / 8 < s.size) (he : plc o p = e) :
    (wrap64 (s[p / 8].toNat : Int) / 2 ^ e).tmod 2 = ((bitN o s.data.toList p : Nat) : Int) := by
  have hb := s[p / 8].toNat_lt
  rw [IntWalk.wrap64_in _ (by omega)]
  have e1 : ((s[p / 8].toNat : Int) / 2 ^ e) = ((s[p / 8].toNat / 2 ^ e : Nat) : Int) := by
    rw [Int.natCast_ediv]; congr 1
  unfold bitN
  rw [e1, byt_at s _ h, he]
  generalize s[p / 8].toNat / 2 ^ e = x
  rw [Int.tmod_eq_emod_of_nonneg (by omega)]
  omega
theorem low_ref (s : ByteArray) (a k p : Nat) (hk : k < 24) (hp : a + k = p) (h : p / 8 < s.size) :
    wrap64 ((valL s.data.toList a k : Nat) + wrap64 ((wrap64 (s[p / 8].toNat : Int) / 2 ^ (p % 8)).tmod 2 * 2 ^ k)) = (valL s.data.toList a (k + 1) : Nat) := by
  rw [ref_bit 1 s p _ h (by unfold plc; rw [if_neg (by decide)])]
  subst hp
  have h1 := valL_lt s.data.toList a k
  have h2 := bitN_lt 1 s.data.toList (a + k)
  have h3 : 2 ^ k < 2 ^ 24 := Nat.pow_lt_pow_right (by decide) hk
  have h4 : bitN 1 s.data.toList (a + k) * 2 ^ k ≤ 1 * 2 ^ k := Nat.mul_le_mul_right _ (by omega)
  have h5 : (2 : Nat) ^ 24 = 16777216 := by decide
  rw [h5] at h3
  have e : ((bitN 1 s.data.toList (a + k) : Nat) : Int) * 2 ^ k = ((bitN 1 s.data.toList (a + k) * 2 ^ k : Nat) : Int) := by
    rw [Int.natCast_mul]; congr 1
  show wrap64 ((valL s.data.toList a k : Nat) + wrap64 (((bitN 1 s.data.toList (a + k) : Nat) : Int) * 2 ^ k)) = ((valL s.data.toList a k + bitN 1 s.data.toList (a + k) * 2 ^ k : Nat) : Int)
  rw [e]
  generalize bitN 1 s.data.toList (a + k) * 2 ^ k = y at *
  rw [IntWalk.wrap64_in (y : Int) (by omega), IntWalk.wrap64_in _ (by omega)]
  omega
theorem high_ref (s : ByteArray) (a k p : Nat) (hk : k < 24) (hp : a + k = p) (h : p / 8 < s.size) :
    wrap64 (wrap64 (2 * (valH s.data.toList a k : Nat)) + (wrap64 (s[p / 8].toNat : Int) / 2 ^ (7 - p % 8)).tmod 2) = (valH s.data.toList a (k + 1) : Nat) := by
  rw [ref_bit 2 s p _ h (by unfold plc; rw [if_pos rfl])]
  subst hp
  have h1 := valH_lt s.data.toList a k
  have h2 := bitN_lt 2 s.data.toList (a + k)
  have h3 : 2 ^ k < 2 ^ 24 := Nat.pow_lt_pow_right (by decide) hk
  have h5 : (2 : Nat) ^ 24 = 16777216 := by decide
  rw [h5] at h3
  show wrap64 (wrap64 (2 * (valH s.data.toList a k : Nat)) + ((bitN 2 s.data.toList (a + k) : Nat) : Int)) = ((2 * valH s.data.toList a k + bitN 2 s.data.toList (a + k) : Nat) : Int)
  generalize bitN 2 s.data.toList (a + k) = y at *
  generalize valH s.data.toList a k = x at *
  rw [IntWalk.wrap64_in (2 * (x : Int)) (by omega), IntWalk.wrap64_in _ (by omega)]
  omega
end Go.Proofs.Ytbgechfmbogbpaa
