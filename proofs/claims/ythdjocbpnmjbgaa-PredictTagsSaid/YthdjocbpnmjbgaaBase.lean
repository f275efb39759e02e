/-
  What octet's texts and fix's share.
-/
import Derived.Test.YthdjocbpnmjbgaaBase0
namespace Go.Proofs.Ythdjocbpnmjbgaa
open Go.RowKit

end Go.Proofs.Ythdjocbpnmjbgaa
