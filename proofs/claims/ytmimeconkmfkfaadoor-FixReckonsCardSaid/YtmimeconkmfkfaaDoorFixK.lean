/-
  Sum for all operands.
-/
import Derived.Test.YtmimeconkmfkfaaDoorFixJ
namespace Go.Proofs.YtmimeconkmfkfaaDoor
open Go.RowKit Fix

theorem reads_below {w w' : World} {a : Option Addr} {xs : List Int} (h : ReadsInts w a xs) (hb : Below w.heap.size w w') : ReadsInts w' a xs := fun j hj =>
  let ⟨b, off, ha, hc⟩ := h j hj
  ⟨b, off, ha, cell_later hb hc⟩

theorem enter_sum (caps : Array Value) (W : World) : (callFunc 50 caps).run Tryd.prog W = .ok (.enter 50 caps) W := by
  first | kernel_rfl | rfl

theorem below_three (w : World) (o o' o'' : Obj) : Below w.heap.size w (((w.alloc o).alloc o').alloc o'') :=
  (((Below.refl _ _).alloc (Nat.le_refl _) _).alloc (by simp) _).alloc (by simp; omega) _

theorem sum_any (a : Option Addr) (cap : Nat) (xs : List Int) (w : World) (hlen : xs.length ≤ 1000000) (hc : ReadsInts w a xs) :
    Calls Tryd.prog 25 #[.slice a xs.length cap] w fun e w' => e = .returned (.tuple #[.int .i64 (sumN xs), .int .i64 (sumE xs)]) ∧ Below w.heap.size w w' := by
  have hmf : ∀ (fn : Fn) (first cap : Array Value) (w : World), (Instr.makeFunc fn first cap).run Tryd.prog w = .ok (.func fn first cap) w := fun _ _ _ _ => rfl
  have HC := Lib.hid hc
  clear hc
  by_cases h : (xs.all inRange && inRange (sumL xs)) = true
  · have e1 : sumN xs = sumL xs := by unfold sumN; rw [if_pos h]
    have e2 : sumE xs = 0 := by unfold sumE; rw [if_pos h]
    have e3 : sumEnd xs = .returned (.int .i64 (sumL xs)) := by unfold sumEnd; rw [if_pos h]
    rw [e1, e2]
    have HE := Lib.hid e3
    clear h e1 e2 e3
    go_enter Tryd.func25, Tryd.ntmps25
    go_wp2_with fail
    refine (attempt_ok 50 _ (sumL xs) _ (enter_sum _) ((sum_work ⟨w.heap.size, 0, none⟩ a cap xs _ ?_ hlen (reads_below HC.out (below_three _ _ _ _))).mono ?_)).mono ?_
    · simp [go_sem]
    · rintro e w1 ⟨he, rfl⟩
      exact ⟨he.trans HE.out, 0, rfl⟩
    rintro e w1 ⟨rfl, hb⟩
    go_wp2_with fail
    go_ret2
    exact ⟨rfl, ((Below.refl _ _).alloc (Nat.le_refl _) _).trans (hb.mono (by simp))⟩
  · have e1 : sumN xs = 0 := by unfold sumN; rw [if_neg h]
    have e2 : sumE xs = 2 := by unfold sumE; rw [if_neg h]
    have e3 : sumEnd xs = gaveUp 2 := by unfold sumEnd; rw [if_neg h]
    rw [e1, e2]
    have HE := Lib.hid e3
    clear h e1 e2 e3
    go_enter Tryd.func25, Tryd.ntmps25
    go_wp2_with fail
    refine (attempt_no 50 _ 2 _ (enter_sum _) ((sum_work ⟨w.heap.size, 0, none⟩ a cap xs _ ?_ hlen (reads_below HC.out (below_three _ _ _ _))).mono ?_)).mono ?_
    · simp [go_sem]
    · rintro e w1 ⟨he, rfl⟩
      exact ⟨he.trans HE.out, 0, rfl⟩
    rintro e w1 ⟨rfl, hb⟩
    go_wp2_with fail
    go_ret2
    exact ⟨rfl, ((Below.refl _ _).alloc (Nat.le_refl _) _).trans (hb.mono (by simp))⟩
end Go.Proofs.YtmimeconkmfkfaaDoor
