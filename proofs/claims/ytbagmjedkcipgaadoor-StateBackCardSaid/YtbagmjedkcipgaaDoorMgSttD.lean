/-
  state.Same, by the first test that fails.
-/
import Derived.Test.YtbagmjedkcipgaaDoorMgSttC
namespace Go.Proofs.YtbagmjedkcipgaaDoor
open Go.RowKit
attribute [-go_sem] run_equalIn_agg
attribute [local go_sem] eqMx eqCo eqTx

set_option maxRecDepth 100000 in
set_option maxHeartbeats 8000000 in
theorem same_n0 (g h : Nat → Int) (f k : ByteArray) (A B : Option Addr) (l m : List Int) (ca cb : Nat) (w : World) (_hA : NAt w A l) (_hB : NAt w B m) (_hl : l.length ≤ 1000000000) (q0 : eqL [g 0, g 1, g 2, g 3, g 4, g 5] [h 0, h 1, h 2, h 3, h 4, h 5] = false) :
    Calls Tryd.prog 12 #[.agg (gsC g f (.slice A l.length ca)), .agg (gsC h k (.slice B m.length cb))] w fun e w' => e = .returned (.bool false) ∧ Below w.heap.size w w' := by
  unfold gsC at *
  go_enter Tryd.func12, Tryd.ntmps12
  go_wp2_with fail
  go_ret
  exact ⟨rfl, ((Below.refl _ w).alloc (Nat.le_refl _) _).alloc (by simp) _⟩
set_option maxRecDepth 100000 in
set_option maxHeartbeats 8000000 in
theorem same_n1 (g h : Nat → Int) (f k : ByteArray) (A B : Option Addr) (l m : List Int) (ca cb : Nat) (w : World) (_hA : NAt w A l) (_hB : NAt w B m) (_hl : l.length ≤ 1000000000) (q0 : eqL [g 0, g 1, g 2, g 3, g 4, g 5] [h 0, h 1, h 2, h 3, h 4, h 5] = true) (q1 : ¬ g 6 = h 6) :
    Calls Tryd.prog 12 #[.agg (gsC g f (.slice A l.length ca)), .agg (gsC h k (.slice B m.length cb))] w fun e w' => e = .returned (.bool false) ∧ Below w.heap.size w w' := by
  unfold gsC at *
  go_enter Tryd.func12, Tryd.ntmps12
  go_wp2_with fail
  go_ret
  exact ⟨rfl, ((Below.refl _ w).alloc (Nat.le_refl _) _).alloc (by simp) _⟩
set_option maxRecDepth 100000 in
set_option maxHeartbeats 8000000 in
theorem same_n2 (g h : Nat → Int) (f k : ByteArray) (A B : Option Addr) (l m : List Int) (ca cb : Nat) (w : World) (_hA : NAt w A l) (_hB : NAt w B m) (_hl : l.length ≤ 1000000000) (q0 : eqL [g 0, g 1, g 2, g 3, g 4, g 5] [h 0, h 1, h 2, h 3, h 4, h 5] = true) (q1 : g 6 = h 6) (q2 : ¬ g 7 = h 7) :
    Calls Tryd.prog 12 #[.agg (gsC g f (.slice A l.length ca)), .agg (gsC h k (.slice B m.length cb))] w fun e w' => e = .returned (.bool false) ∧ Below w.heap.size w w' := by
  unfold gsC at *
  go_enter Tryd.func12, Tryd.ntmps12
  go_wp2_with fail
  go_ret
  exact ⟨rfl, ((Below.refl _ w).alloc (Nat.le_refl _) _).alloc (by simp) _⟩
set_option maxRecDepth 100000 in
set_option maxHeartbeats 8000000 in
theorem same_n3 (g h : Nat → Int) (f k : ByteArray) (A B : Option Addr) (l m : List Int) (ca cb : Nat) (w : World) (_hA : NAt w A l) (_hB : NAt w B m) (_hl : l.length ≤ 1000000000) (q0 : eqL [g 0, g 1, g 2, g 3, g 4, g 5] [h 0, h 1, h 2, h 3, h 4, h 5] = true) (q1 : g 6 = h 6) (q2 : g 7 = h 7) (q3 : ¬ g 8 = h 8) :
    Calls Tryd.prog 12 #[.agg (gsC g f (.slice A l.length ca)), .agg (gsC h k (.slice B m.length cb))] w fun e w' => e = .returned (.bool false) ∧ Below w.heap.size w w' := by
  unfold gsC at *
  go_enter Tryd.func12, Tryd.ntmps12
  go_wp2_with fail
  go_ret
  exact ⟨rfl, ((Below.refl _ w).alloc (Nat.le_refl _) _).alloc (by simp) _⟩
set_option maxRecDepth 100000 in
set_option maxHeartbeats 8000000 in
theorem same_n4 (g h : Nat → Int) (f k : ByteArray) (A B : Option Addr) (l m : List Int) (ca cb : Nat) (w : World) (_hA : NAt w A l) (_hB : NAt w B m) (_hl : l.length ≤ 1000000000) (q0 : eqL [g 0, g 1, g 2, g 3, g 4, g 5] [h 0, h 1, h 2, h 3, h 4, h 5] = true) (q1 : g 6 = h 6) (q2 : g 7 = h 7) (q3 : g 8 = h 8) (q4 : ¬ g 9 = h 9) :
    Calls Tryd.prog 12 #[.agg (gsC g f (.slice A l.length ca)), .agg (gsC h k (.slice B m.length cb))] w fun e w' => e = .returned (.bool false) ∧ Below w.heap.size w w' := by
  unfold gsC at *
  go_enter Tryd.func12, Tryd.ntmps12
  go_wp2_with fail
  go_ret
  exact ⟨rfl, ((Below.refl _ w).alloc (Nat.le_refl _) _).alloc (by simp) _⟩
end Go.Proofs.YtbagmjedkcipgaaDoor
