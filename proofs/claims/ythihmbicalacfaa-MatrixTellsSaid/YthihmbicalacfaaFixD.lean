/-
  The walks of Whole and Mul: each returns what the plain functions say, with its error.
-/
import Derived.Test.YthihmbicalacfaaFixC
namespace Go.Proofs.Ythihmbicalacfaa
open Go.RowKit Fix

/-- A product of two numbers in range, and its quotient by One. -/
theorem mul_bounds {a b : Int} (a1 : -1073741824 ≤ a) (a2 : a ≤ 1073741824) (b1 : -1073741824 ≤ b) (b2 : b ≤ 1073741824) : -1152921504606846976 ≤ a * b ∧ a * b ≤ 1152921504606846976 := by
  have h : (a * b).natAbs ≤ 1073741824 * 1073741824 := by
    rw [Int.natAbs_mul]
    exact Nat.mul_le_mul (by omega) (by omega)
  omega
theorem div_bounds {n : Int} (h1 : -4611686018427387904 ≤ n) (h2 : n ≤ 4611686018427387904) : -4611686018427387904 ≤ n.tdiv 10000 ∧ n.tdiv 10000 ≤ 4611686018427387904 := by
  have e := Int.mul_tdiv_add_tmod n 10000
  have r1 := Int.tmod_lt_of_pos n (by decide : (0 : Int) < 10000)
  have r2 := Int.lt_tmod_of_pos n (by decide : (0 : Int) < 10000)
  omega

end Go.Proofs.Ythihmbicalacfaa
