/-
  up: whether the decimals behind the last unit round the magnitude up.
-/
import Derived.Test.YtmimeconkmfkfaaDoorFixU
import Derived.Test.YtmimeconkmfkfaaDoorShelf
namespace Go.Proofs.YtmimeconkmfkfaaDoor
open Go.RowKit Fix

def upPlus (l : List UInt8) : Bool := !Op.bytesLess l [53]
def upMinus (l : List UInt8) : Bool := (!Op.bytesLess (Lib.trimRightB l 48) [53]) && !(Lib.trimRightB l 48 == [53])

theorem up_plus (s : ByteArray) (w : World) :
    Calls Tryd.prog 33 #[.string s, .bool false] w fun e w' => e = .returned (.bool (upPlus s.toList)) ∧ w' = w := by
  go_enter Tryd.func33, Tryd.ntmps33
  go_wp2
  go_ret
  exact ⟨rfl, rfl⟩
theorem up_minus (s : ByteArray) (w : World) (hs : s.size ≤ 4000000000) :
    Calls Tryd.prog 33 #[.string s, .bool true] w fun e w' => e = .returned (.bool (upMinus s.data.toList)) ∧ w' = w := by
  go_enter Tryd.func33, Tryd.ntmps33
  go_wp2_with fail
  refine (Tryd.strings_TrimRight_one s 48 (by decide) _ (by omega)).mono ?_
  rintro e w' ⟨rfl, rfl⟩
  go_wp2
  go_ret
  exact ⟨rfl, rfl⟩
end Go.Proofs.YtmimeconkmfkfaaDoor
