/-
  The reference: Mul and Div.
-/
import Derived.Test.YthihmbicalacfaaFixN
namespace Go.Proofs.Ythihmbicalacfaa
open Go.RowKit Fix

end Go.Proofs.Ythihmbicalacfaa
