/-
  ops.matches: can an operand of a kind stand for a letter?
-/
import Derived.Test.YtmpalhffmgiodaaDoorFldT
namespace Go.Proofs.YtmpalhffmgiodaaDoor
open Go.RowKit

def matchK (k c : Int) : Bool := if c = 110 then decide (k = 2) || decide (k = 3) else if c = 115 then decide (k = 4) else if c = 78 then decide (k = 5) else if c = 97 then decide (k = 6) else if c = 100 then decide (k = 7) else true

set_option maxRecDepth 100000 in
theorem matches_any (k c : Int) (w : World) : Calls Tryd.prog 51 #[.int .i64 k, .int .u8 c] w fun e w' => e = .returned (.bool (matchK k c)) ∧ w = w' := by
  have H := Lib.hid (show matchK k c = if c = 110 then decide (k = 2) || decide (k = 3) else if c = 115 then decide (k = 4) else if c = 78 then decide (k = 5) else if c = 97 then decide (k = 6) else if c = 100 then decide (k = 7) else true from rfl)
  obtain ⟨z, hz⟩ : ∃ z, matchK k c = z := ⟨_, rfl⟩
  rw [hz] at H ⊢
  clear hz
  by_cases h1 : c = 110
  · subst h1
    rw [if_pos rfl] at H
    by_cases h2 : k = 2
    · subst h2
      go_enter Tryd.func51, Tryd.ntmps51
      go_wp2_with fail
      go_ret
      exact ⟨by rw [H.out]; rfl, rfl⟩
    · have h2b : (k == 2) = false := by simpa using h2
      rw [decide_eq_false h2, Bool.false_or] at H
      go_enter Tryd.func51, Tryd.ntmps51
      go_wp2_with fail
      go_ret
      exact ⟨by rw [H.out]; rfl, rfl⟩
  · rw [if_neg h1] at H
    have b1 : (c == 110) = false := by simpa using h1
    by_cases h2 : c = 115
    · subst h2
      rw [if_pos rfl] at H
      go_enter Tryd.func51, Tryd.ntmps51
      go_wp2_with fail
      go_ret
      exact ⟨by rw [H.out]; rfl, rfl⟩
    · rw [if_neg h2] at H
      have b2 : (c == 115) = false := by simpa using h2
      by_cases h3 : c = 78
      · subst h3
        rw [if_pos rfl] at H
        go_enter Tryd.func51, Tryd.ntmps51
        go_wp2_with fail
        go_ret
        exact ⟨by rw [H.out]; rfl, rfl⟩
      · rw [if_neg h3] at H
        have b3 : (c == 78) = false := by simpa using h3
        by_cases h4 : c = 97
        · subst h4
          rw [if_pos rfl] at H
          go_enter Tryd.func51, Tryd.ntmps51
          go_wp2_with fail
          go_ret
          exact ⟨by rw [H.out]; rfl, rfl⟩
        · rw [if_neg h4] at H
          have b4 : (c == 97) = false := by simpa using h4
          by_cases h5 : c = 100
          · subst h5
            rw [if_pos rfl] at H
            go_enter Tryd.func51, Tryd.ntmps51
            go_wp2_with fail
            go_ret
            exact ⟨by rw [H.out]; rfl, rfl⟩
          · rw [if_neg h5] at H
            have b5 : (c == 100) = false := by simpa using h5
            go_enter Tryd.func51, Tryd.ntmps51
            go_wp2_with fail
            go_ret
            exact ⟨by rw [H.out]; rfl, rfl⟩
end Go.Proofs.YtmpalhffmgiodaaDoor
