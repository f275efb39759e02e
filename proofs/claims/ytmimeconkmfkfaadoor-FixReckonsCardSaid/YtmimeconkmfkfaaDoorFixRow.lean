/-
  What the five rows of the layer share: the listed variables give what the walks ask of the world, and one world that holds them.
-/
import Derived.Test.YtmimeconkmfkfaaDoorFixLb
import Derived.Test.YtmimeconkmfkfaaDoorRowEnd
import Derived.Test.YtmimeconkmfkfaaDoorCards
import Derived.Test.YtmimeconkmfkfaaDoorTie
import Derived.ProofKit
import Derived.OpenShut
import Derived.Deep.DeepHandedRow
import Derived.Lib.LaidTab
import Derived.Lay
import Derived.Stop.LaidErr
namespace Go.Proofs.YtmimeconkmfkfaaDoor
open Go.ChangeShapes Go.WideShapes Go.ChangeAt Go.RowKit Fix

theorem own : ownKnob Tryd.prog.godebug = none := by kernel_rfl
theorem gPow : Tryd.prog.globalNamed "internal/strconv.uint64pow10" = some 1 := by kernel_rfl
theorem gPowType : (Tryd.prog.globals[1]?).map (·.type) = some 77 := by kernel_rfl
theorem cellsPow : Tryd.prog.cellsOf 77 = 20 := by kernel_rfl
theorem cellsU64 : Tryd.prog.cellsOf 67 = 1 := by kernel_rfl

theorem live_of {W : World} (h : laidMet Tryd.prog Rows.fixNearRow.laid W) (hsh : W.ShapedOpen Tryd.prog) : Live W := by
  refine ⟨Tryd.laysM145.s1_3 W hsh, ?_⟩
  have h2 : laidMet Tryd.prog (("internal/strconv.uint64pow10", Lib.tabData .u64 Lib.pow10Tab) :: [("unicode/utf8.acceptRanges", Rows.laid_unicode_utf8_acceptRanges), ("unicode/utf8.first", Rows.laid_unicode_utf8_first)]) W := (laidMet.tail (laidMet.tail h))
  exact Lib.tabIs_of_head gPow gPowType Tryd.underlying77 Tryd.underlying67 cellsU64 cellsPow h2

/-- A world for the witness: the settled one, the listed variables holding what their initialisers lay. -/
noncomputable def laidWorld (os : Os) : World := World.laidAll Tryd.prog os Rows.fixNearRow.laid
theorem laid_met (os : Os) (args : Array Value) : laidMet Tryd.prog Rows.fixNearRow.laid ((laidWorld os).forCall (fun _ _ => 0) ⟨#[], args, []⟩).memory :=
  laidMet_laidAll args (by kernel_rfl) (by kernel_rfl)
end Go.Proofs.YtmimeconkmfkfaaDoor
