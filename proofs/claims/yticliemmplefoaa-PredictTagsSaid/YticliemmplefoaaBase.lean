/-
  What octet's texts and fix's share.
-/
import Derived.Test.YticliemmplefoaaBase0
namespace Go.Proofs.Yticliemmplefoaa
open Go.RowKit

end Go.Proofs.Yticliemmplefoaa
