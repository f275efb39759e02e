/-
  What octet's texts and fix's share.
-/
import Derived.Test.YtmajbjjfebbnlaaBase0
namespace Go.Proofs.Ytmajbjjfebbnlaa
open Go.RowKit

end Go.Proofs.Ytmajbjjfebbnlaa
