/-
  Lemmas and walks, joined: LexRow.
-/
import Derived.Test.YtbmiogoigjdceaaDoorQ18
import Derived.Test.YtbmiogoigjdceaaDoorQ19
import Derived.Test.YtbmiogoigjdceaaDoorCards
import Derived.Test.YtbmiogoigjdceaaDoorTie
import Derived.ProofKit
import Derived.OpenShut
import Derived.Deep.DeepHandedRow
import Derived.Lib.LaidTab
import Derived.Lay
import Derived.Stop.LaidErr
namespace Go.Proofs.YtbmiogoigjdceaaDoor
open Go.ChangeShapes Go.WideShapes Go.ChangeAt Go.RowKit Fix

theorem own : ownKnob Tryd.prog.godebug = none := by kernel_rfl
theorem live_of {W : World} (_h : laidMet Tryd.prog Rows.lexNextRow.laid W) (hsh : W.ShapedOpen Tryd.prog) : MaxLenAt W := Tryd.laysM145.s1_3 W hsh

/-- A world for the witness: the settled one, the listed variables holding what their initialisers lay. -/
noncomputable def laidWorld (os : Os) : World := World.laidAll Tryd.prog os Rows.lexNextRow.laid
theorem laid_met (os : Os) (args : Array Value) : laidMet Tryd.prog Rows.lexNextRow.laid ((laidWorld os).forCall (fun _ _ => 0) ⟨#[], args, []⟩).memory :=
  laidMet_laidAll args (by kernel_rfl) (by kernel_rfl)
end Go.Proofs.YtbmiogoigjdceaaDoor
