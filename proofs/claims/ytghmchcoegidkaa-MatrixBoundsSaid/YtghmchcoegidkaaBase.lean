/-
  What octet's texts and fix's share.
-/
import Derived.Test.YtghmchcoegidkaaBase0
namespace Go.Proofs.Ytghmchcoegidkaa
open Go.RowKit

end Go.Proofs.Ytghmchcoegidkaa
