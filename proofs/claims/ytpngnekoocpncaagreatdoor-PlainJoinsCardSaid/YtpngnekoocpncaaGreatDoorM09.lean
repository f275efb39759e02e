/-
  Lemmas and walks, joined: OctT.
-/
import Derived.Test.YtpngnekoocpncaaGreatDoorM04
namespace Go.Proofs.YtpngnekoocpncaaGreatDoor
open Go.RowKit Oct

end Go.Proofs.YtpngnekoocpncaaGreatDoor
