/-
  state.changeOf at names: what an operator changes.
-/
import Derived.Test.YtmpalhffmgiodaaDoorFldV
namespace Go.Proofs.YtmpalhffmgiodaaDoor
open Go.RowKit

set_option maxRecDepth 100000 in
theorem change_q (w : World) : Calls Tryd.prog 18 #[.string ⟨#[113]⟩] w fun e w' => e = .returned (.func (.func 25) #[] #[]) ∧ w = w' := by
  go_enter Tryd.func18, Tryd.ntmps18
  go_wp2_with fail
  go_ret
  exact ⟨rfl, rfl⟩
set_option maxRecDepth 100000 in
theorem change_Q (w : World) : Calls Tryd.prog 18 #[.string ⟨#[81]⟩] w fun e w' => e = .returned (.func (.func 27) #[] #[]) ∧ w = w' := by
  go_enter Tryd.func18, Tryd.ntmps18
  go_wp2_with fail
  go_ret
  exact ⟨rfl, rfl⟩
set_option maxRecDepth 100000 in
theorem change_w (w : World) : Calls Tryd.prog 18 #[.string ⟨#[119]⟩] w fun e w' => e = .returned (.func (.func 33) #[] #[]) ∧ w = w' := by
  go_enter Tryd.func18, Tryd.ntmps18
  go_wp2_with fail
  go_ret
  exact ⟨rfl, rfl⟩
set_option maxRecDepth 100000 in
theorem change_J (w : World) : Calls Tryd.prog 18 #[.string ⟨#[74]⟩] w fun e w' => e = .returned (.func (.func 36) #[] #[]) ∧ w = w' := by
  go_enter Tryd.func18, Tryd.ntmps18
  go_wp2_with fail
  go_ret
  exact ⟨rfl, rfl⟩
set_option maxRecDepth 100000 in
theorem change_rg (w : World) : Calls Tryd.prog 18 #[.string ⟨#[114, 103]⟩] w fun e w' => e = .returned (.func (.func 45) #[] #[]) ∧ w = w' := by
  go_enter Tryd.func18, Tryd.ntmps18
  go_wp2_with fail
  go_ret
  exact ⟨rfl, rfl⟩
set_option maxRecDepth 100000 in
theorem change_l (w : World) : Calls Tryd.prog 18 #[.string ⟨#[108]⟩] w fun e w' => e = .returned (Value.nilFunc) ∧ w = w' := by
  have HT : Hid (∀ W, Calls Tryd.prog 49 #[.string ⟨#[108]⟩] W fun e w' => e = .returned (Value.nilFunc) ∧ W = w') := Lib.hid (fun W => by
    go_enter Tryd.func49, Tryd.ntmps49
    go_wp2_with fail
    go_ret
    exact ⟨rfl, rfl⟩)
  go_enter Tryd.func18, Tryd.ntmps18
  go_wp2_with fail
  refine (HT.out _).mono ?_
  rintro e w1 ⟨rfl, rfl⟩
  go_wp2_with fail
  go_ret
  exact ⟨rfl, rfl⟩
end Go.Proofs.YtmpalhffmgiodaaDoor
