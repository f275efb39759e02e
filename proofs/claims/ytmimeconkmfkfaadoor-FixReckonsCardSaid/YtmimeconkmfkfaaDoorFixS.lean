/-
  Near for all operands, the program's and the reference's.
-/
import Derived.Test.YtmimeconkmfkfaaDoorFixR
namespace Go.Proofs.YtmimeconkmfkfaaDoor
open Go.RowKit Fix

def nearBig (n : Int) : Bool := decide (n < -4611686018427387904) || decide (4611686018427387904 < n)
def nearN (n d : Int) : Int := if d < 1 then 0 else if nearBig n then 0 else nearS n d
def nearE (n d : Int) : Int := if d < 1 then 1 else if nearBig n then 2 else 0
theorem nearBig_yes {n : Int} (h : nearBig n = true) : n < -4611686018427387904 ∨ 4611686018427387904 < n := by unfold nearBig at h; simpa using h
theorem nearBig_no {n : Int} (h : ¬ nearBig n = true) : -4611686018427387904 ≤ n ∧ n ≤ 4611686018427387904 := by unfold nearBig at h; simp at h; omega

theorem near_all (n d : Int) (w : World) (hd : d ≤ 9223372036854775807) :
    Calls Tryd.prog 11 #[.int .i64 n, .int .i64 d] w fun e w' => e = .returned (.tuple #[.int .i64 (nearN n d), .int .i64 (nearE n d)]) ∧ Below w.heap.size w w' := by
  by_cases h : d < 1
  · rw [show nearN n d = 0 from if_pos h, show nearE n d = 1 from if_pos h]
    exact near_bad n d w h
  · by_cases hb : nearBig n = true
    · rw [show nearN n d = 0 from (if_neg h).trans (if_pos hb), show nearE n d = 2 from (if_neg h).trans (if_pos hb)]
      exact near_range n d w (by omega) (nearBig_yes hb)
    · rw [show nearN n d = nearS n d from (if_neg h).trans (if_neg hb), show nearE n d = 0 from (if_neg h).trans (if_neg hb)]
      exact near_ok n d w (by omega) hd (nearBig_no hb).1 (nearBig_no hb).2 (tdiv_bounds (nearBig_no hb).1 (nearBig_no hb).2)
theorem nearR_all (n d : Int) (w : World) (hd : d ≤ 9223372036854775807) :
    Calls Tryd.prog 12 #[.int .i64 n, .int .i64 d] w fun e w' => e = .returned (.tuple #[.int .i64 (nearN n d), .int .i64 (nearE n d)]) ∧ w = w' := by
  by_cases h : d < 1
  · rw [show nearN n d = 0 from if_pos h, show nearE n d = 1 from if_pos h]
    exact nearRef_bad n d w h
  · by_cases hb : nearBig n = true
    · rw [show nearN n d = 0 from (if_neg h).trans (if_pos hb), show nearE n d = 2 from (if_neg h).trans (if_pos hb)]
      exact nearRef_range n d w (by omega) (nearBig_yes hb)
    · rw [show nearN n d = nearS n d from (if_neg h).trans (if_neg hb), show nearE n d = 0 from (if_neg h).trans (if_neg hb)]
      exact nearRef_ok n d w (by omega) hd (nearBig_no hb).1 (nearBig_no hb).2 (tdiv_bounds (nearBig_no hb).1 (nearBig_no hb).2)
end Go.Proofs.YtmimeconkmfkfaaDoor
