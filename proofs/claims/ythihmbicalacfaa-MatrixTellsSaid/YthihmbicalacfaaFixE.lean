/-
  Mul: what it returns for all operands.
-/
import Derived.Test.YthihmbicalacfaaFixD
namespace Go.Proofs.Ythihmbicalacfaa
open Go.RowKit Fix

/-- The value, and the error, of a product. -/
def mulN (a b : Int) : Int := if inRange a && inRange b && inRange (nearS (a * b) 10000) then nearS (a * b) 10000 else 0
def mulE (a b : Int) : Int := if inRange a && inRange b && inRange (nearS (a * b) 10000) then 0 else 2

end Go.Proofs.Ythihmbicalacfaa
