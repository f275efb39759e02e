/-
  Mul: what it returns for all operands.
-/
import Derived.Test.YtmimeconkmfkfaaDoorFixD
namespace Go.Proofs.YtmimeconkmfkfaaDoor
open Go.RowKit Fix

def inRange (n : Int) : Bool := decide (-1073741824 ≤ n) && decide (n ≤ 1073741824)
theorem inRange_yes {n : Int} (h : inRange n = true) : -1073741824 ≤ n ∧ n ≤ 1073741824 := by
  unfold inRange at h
  simpa using h
theorem inRange_no {n : Int} (h : ¬ inRange n = true) : n < -1073741824 ∨ 1073741824 < n := by
  unfold inRange at h
  simp at h
  omega
/-- The value, and the error, of a product. -/
def mulN (a b : Int) : Int := if inRange a && inRange b && inRange (nearS (a * b) 10000) then nearS (a * b) 10000 else 0
def mulE (a b : Int) : Int := if inRange a && inRange b && inRange (nearS (a * b) 10000) then 0 else 2

theorem enter_mul (caps : Array Value) (W : World) : (callFunc 46 caps).run Tryd.prog W = .ok (.enter 46 caps) W := by
  first | kernel_rfl | rfl

theorem mul_of_ok (a b c : Int) (w : World) (h : ∀ (p q : Addr) (W : World), W.cell? p = some (.int .i64 a) → W.cell? q = some (.int .i64 b) → Calls Tryd.prog 46 #[.pointer (some p), .pointer (some q)] W fun e w' => e = .returned (.int .i64 c) ∧ ∃ k, w' = W.drewN k) :
    Calls Tryd.prog 19 #[.int .i64 a, .int .i64 b] w fun e w' => e = .returned (.tuple #[.int .i64 c, .int .i64 0]) ∧ Below w.heap.size w w' := by
  have hmf : ∀ (fn : Fn) (first cap : Array Value) (w : World), (Instr.makeFunc fn first cap).run Tryd.prog w = .ok (.func fn first cap) w := fun _ _ _ _ => rfl
  have H := Lib.hid h
  clear h
  go_enter Tryd.func19, Tryd.ntmps19
  go_wp2_with fail
  refine (attempt_ok 46 _ c _ (enter_mul _) (H.out ⟨w.heap.size, 0, none⟩ ⟨w.heap.size + 1, 0, none⟩ _ ?_ ?_)).mono ?_
  · simp [go_sem]
  · simp [go_sem]
  rintro e w1 ⟨rfl, hb⟩
  go_wp2_with fail
  go_ret2
  exact ⟨rfl, (((Below.refl _ _).alloc (Nat.le_refl _) _).alloc (by simp) _).trans (hb.mono (by simp; omega))⟩
theorem mul_of_no (a b x : Int) (w : World) (h : ∀ (p q : Addr) (W : World), W.cell? p = some (.int .i64 a) → W.cell? q = some (.int .i64 b) → Calls Tryd.prog 46 #[.pointer (some p), .pointer (some q)] W fun e w' => e = gaveUp x ∧ ∃ k, w' = W.drewN k) :
    Calls Tryd.prog 19 #[.int .i64 a, .int .i64 b] w fun e w' => e = .returned (.tuple #[.int .i64 0, .int .i64 x]) ∧ Below w.heap.size w w' := by
  have hmf : ∀ (fn : Fn) (first cap : Array Value) (w : World), (Instr.makeFunc fn first cap).run Tryd.prog w = .ok (.func fn first cap) w := fun _ _ _ _ => rfl
  have H := Lib.hid h
  clear h
  go_enter Tryd.func19, Tryd.ntmps19
  go_wp2_with fail
  refine (attempt_no 46 _ x _ (enter_mul _) (H.out ⟨w.heap.size, 0, none⟩ ⟨w.heap.size + 1, 0, none⟩ _ ?_ ?_)).mono ?_
  · simp [go_sem]
  · simp [go_sem]
  rintro e w1 ⟨rfl, hb⟩
  go_wp2_with fail
  go_ret2
  exact ⟨rfl, (((Below.refl _ _).alloc (Nat.le_refl _) _).alloc (by simp) _).trans (hb.mono (by simp; omega))⟩

theorem mul_any (a b : Int) (w : World) :
    Calls Tryd.prog 19 #[.int .i64 a, .int .i64 b] w fun e w' => e = .returned (.tuple #[.int .i64 (mulN a b), .int .i64 (mulE a b)]) ∧ Below w.heap.size w w' := by
  by_cases ha : inRange a = true
  · by_cases hb : inRange b = true
    · by_cases hc : inRange (nearS (a * b) 10000) = true
      · have e1 : mulN a b = nearS (a * b) 10000 := by unfold mulN; rw [ha, hb, hc]; rfl
        have e2 : mulE a b = 0 := by unfold mulE; rw [ha, hb, hc]; rfl
        rw [e1, e2]
        exact mul_of_ok a b _ w fun p q W hp hq => mul_work_ok p q a b _ W hp hq (inRange_yes ha).1 (inRange_yes ha).2 (inRange_yes hb).1 (inRange_yes hb).2 rfl (inRange_yes hc).1 (inRange_yes hc).2
      · have e1 : mulN a b = 0 := by unfold mulN; rw [ha, hb, Bool.eq_false_iff.2 hc]; rfl
        have e2 : mulE a b = 2 := by unfold mulE; rw [ha, hb, Bool.eq_false_iff.2 hc]; rfl
        rw [e1, e2]
        exact mul_of_no a b 2 w fun p q W hp hq => mul_work_c p q a b _ W hp hq (inRange_yes ha).1 (inRange_yes ha).2 (inRange_yes hb).1 (inRange_yes hb).2 rfl (inRange_no hc)
    · have e1 : mulN a b = 0 := by unfold mulN; rw [ha, Bool.eq_false_iff.2 hb]; rfl
      have e2 : mulE a b = 2 := by unfold mulE; rw [ha, Bool.eq_false_iff.2 hb]; rfl
      rw [e1, e2]
      exact mul_of_no a b 2 w fun p q W hp hq => mul_work_b p q a b W hp hq (inRange_yes ha).1 (inRange_yes ha).2 (inRange_no hb)
  · have e1 : mulN a b = 0 := by unfold mulN; rw [Bool.eq_false_iff.2 ha]; rfl
    have e2 : mulE a b = 2 := by unfold mulE; rw [Bool.eq_false_iff.2 ha]; rfl
    rw [e1, e2]
    exact mul_of_no a b 2 w fun p q W hp hq => mul_work_a p q a b W hp hq (inRange_no ha)
end Go.Proofs.YtmimeconkmfkfaaDoor
