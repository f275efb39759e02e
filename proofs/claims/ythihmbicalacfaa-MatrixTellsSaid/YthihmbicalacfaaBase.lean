/-
  What octet's texts and fix's share.
-/
import Derived.Test.YthihmbicalacfaaBase0
namespace Go.Proofs.Ythihmbicalacfaa
open Go.RowKit

end Go.Proofs.Ythihmbicalacfaa
