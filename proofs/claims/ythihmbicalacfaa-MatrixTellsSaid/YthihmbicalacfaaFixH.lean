/-
  root: bit by bit, the integer square root.
-/
import Derived.Test.YthihmbicalacfaaFixG
import Derived.LoopTactic
import Derived.Laws.Shifts
namespace Go.Proofs.Ythihmbicalacfaa
open Go.RowKit Fix

theorem wrap_pow (k : Nat) : IntKind.i64.wrap ((2 : Int) ^ (21 - k)) = (2 : Int) ^ (21 - k) := by
  have hb : (2 : Nat) ^ (21 - k) ≤ 2 ^ 21 := Nat.pow_le_pow_right (by decide) (by omega)
  have hc : ((2 : Int) ^ (21 - k)) = ((2 ^ (21 - k) : Nat) : Int) := by norm_cast
  generalize (2 : Nat) ^ (21 - k) = m at hb hc
  rw [hc]
  exact IntWalk.i64_in _ (by omega)
theorem pow_half (k : Nat) (h : k < 22) : (2 : Int) ^ (22 - k) = 2 * (2 : Int) ^ (21 - k) := by
  rw [show 22 - k = (21 - k) + 1 by omega, Int.pow_succ, Int.mul_comm]
theorem pow_pos21 (k : Nat) : 0 < (2 : Int) ^ (21 - k) := Int.pow_pos (by decide)

end Go.Proofs.Ythihmbicalacfaa
