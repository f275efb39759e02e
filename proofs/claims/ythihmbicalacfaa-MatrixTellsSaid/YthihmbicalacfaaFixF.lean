/-
  Div: what it returns for all operands.
-/
import Derived.Test.YthihmbicalacfaaFixE
namespace Go.Proofs.Ythihmbicalacfaa
open Go.RowKit Fix

theorem tdiv_bounds {n d M : Int} (h1 : -M ≤ n) (h2 : n ≤ M) : -M ≤ n.tdiv d ∧ n.tdiv d ≤ M := by
  have h := Int.natAbs_tdiv n d
  have h3 : (n.tdiv d).natAbs ≤ n.natAbs := h ▸ Nat.div_le_self _ _
  clear h
  omega

end Go.Proofs.Ythihmbicalacfaa
