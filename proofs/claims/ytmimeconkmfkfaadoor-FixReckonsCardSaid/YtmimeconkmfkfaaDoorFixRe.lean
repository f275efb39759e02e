/-
  The reference's Read: the loop over the digits, and the rounding.
-/
import Derived.Test.YtmimeconkmfkfaaDoorFixRd
import Derived.Test.YtmimeconkmfkfaaDoorFixN
namespace Go.Proofs.YtmimeconkmfkfaaDoor
open Go.RowKit Fix

theorem valM_bounds (l : List UInt8) (h : l.all isDig = true) : 0 ≤ valM 0 l ∧ valM 0 l ≤ 1099511627776 := by
  have e := valM_eq 0 l (by decide) h
  rw [show min (0 : Int) 1099511627776 = 0 from rfl] at e
  have := valL_ge 0 l (by decide) h
  omega
theorem valM_next (X : ByteArray) (k : Nat) (h : k < X.size) (n : Int) (hn : n = valM 0 (X.data.toList.take k)) : min (10 * n + ((X[k].toNat : Int) - 48)) 1099511627776 = valM 0 (X.data.toList.take (k + 1)) := by
  rw [bytes_succ X k h, valM_snoc, hn]
/-- Whether a byte above '0' stands among those up to k. -/
def someK (l : List UInt8) (k : Nat) : Bool := someUp (l.take k)
theorem someUp_snoc (l : List UInt8) (c : UInt8) (h : l ≠ []) : someUp (l ++ [c]) = (someUp l || decide (48 < c.toNat)) := by
  cases l with
  | nil => exact absurd rfl h
  | cons b t =>
    show (decide (53 < b.toNat) || (t ++ [c]).any fun b => decide (48 < b.toNat)) = _
    rw [List.any_append]
    show _ = ((decide (53 < b.toNat) || t.any fun b => decide (48 < b.toNat)) || decide (48 < c.toNat))
    simp [Bool.or_assoc]
theorem someK_next (X : ByteArray) (k : Nat) (h : k < X.size) (h1 : 1 ≤ k) : someK X.data.toList (k + 1) = (someK X.data.toList k || decide (48 < X[k].toNat)) := by
  unfold someK
  rw [bytes_succ X k h, someUp_snoc]
  intro e
  have := congrArg List.length e
  rw [List.length_take, size_list, List.length_nil] at this
  omega
theorem someK_one (X : ByteArray) (h : 0 < X.size) : someK X.data.toList 1 = decide (53 < X[0].toNat) := by
  unfold someK
  rw [bytes_succ X 0 h]
  show (decide (53 < X[0].toNat) || _) = _
  simp
theorem five_at (X : ByteArray) (h : 0 < X.size) : fiveUp X.data.toList = decide (53 ≤ X[0].toNat) := by
  have e := drop_at X 0 h
  rw [List.drop_zero] at e
  rw [← e]
  rfl
end Go.Proofs.YtmimeconkmfkfaaDoor
