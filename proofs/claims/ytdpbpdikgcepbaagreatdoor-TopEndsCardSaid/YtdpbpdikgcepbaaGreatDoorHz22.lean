/-
  Lemmas and walks, joined: OctE.
-/
import Derived.Test.YtdpbpdikgcepbaaGreatDoorHz04
namespace Go.Proofs.YtdpbpdikgcepbaaGreatDoor
open Go.RowKit Oct

end Go.Proofs.YtdpbpdikgcepbaaGreatDoor
