/-
  The reference: Div whole, Root.
-/
import Derived.Test.YthihmbicalacfaaFixO
namespace Go.Proofs.Ythihmbicalacfaa
open Go.RowKit Fix

theorem half_pow (m : Nat) : (2 : Int) ^ (m + 1) / 2 = (2 : Int) ^ m := by rw [Int.pow_succ, Int.mul_ediv_cancel _ (by decide)]

end Go.Proofs.Ythihmbicalacfaa
