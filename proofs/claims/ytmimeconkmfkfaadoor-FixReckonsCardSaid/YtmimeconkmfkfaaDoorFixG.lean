/-
  Div for all operands.
-/
import Derived.Test.YtmimeconkmfkfaaDoorFixF
namespace Go.Proofs.YtmimeconkmfkfaaDoor
open Go.RowKit Fix

/-- The quotient before its range is looked at. -/
def divQ (a b : Int) : Int := if b < 0 then nearS (-(a * 10000)) (-b) else nearS (a * 10000) b
def divN (a b : Int) : Int := if inRange a && inRange b then (if b = 0 then 0 else if inRange (divQ a b) then divQ a b else 0) else 0
def divE (a b : Int) : Int := if inRange a && inRange b then (if b = 0 then 1 else if inRange (divQ a b) then 0 else 2) else 2

theorem enter_div (caps : Array Value) (W : World) : (callFunc 48 caps).run Tryd.prog W = .ok (.enter 48 caps) W := by
  first | kernel_rfl | rfl

theorem div_of_ok (a b c : Int) (w : World) (h : ∀ (p q : Addr) (W : World), W.cell? p = some (.int .i64 a) → W.cell? q = some (.int .i64 b) → Calls Tryd.prog 48 #[.pointer (some p), .pointer (some q)] W fun e w' => e = .returned (.int .i64 c) ∧ ∃ k, w' = W.drewN k) :
    Calls Tryd.prog 21 #[.int .i64 a, .int .i64 b] w fun e w' => e = .returned (.tuple #[.int .i64 c, .int .i64 0]) ∧ Below w.heap.size w w' := by
  have hmf : ∀ (fn : Fn) (first cap : Array Value) (w : World), (Instr.makeFunc fn first cap).run Tryd.prog w = .ok (.func fn first cap) w := fun _ _ _ _ => rfl
  have H := Lib.hid h
  clear h
  go_enter Tryd.func21, Tryd.ntmps21
  go_wp2_with fail
  refine (attempt_ok 48 _ c _ (enter_div _) (H.out ⟨w.heap.size, 0, none⟩ ⟨w.heap.size + 1, 0, none⟩ _ ?_ ?_)).mono ?_
  · simp [go_sem]
  · simp [go_sem]
  rintro e w1 ⟨rfl, hb⟩
  go_wp2_with fail
  go_ret2
  exact ⟨rfl, (((Below.refl _ _).alloc (Nat.le_refl _) _).alloc (by simp) _).trans (hb.mono (by simp; omega))⟩
theorem div_of_no (a b x : Int) (w : World) (h : ∀ (p q : Addr) (W : World), W.cell? p = some (.int .i64 a) → W.cell? q = some (.int .i64 b) → Calls Tryd.prog 48 #[.pointer (some p), .pointer (some q)] W fun e w' => e = gaveUp x ∧ ∃ k, w' = W.drewN k) :
    Calls Tryd.prog 21 #[.int .i64 a, .int .i64 b] w fun e w' => e = .returned (.tuple #[.int .i64 0, .int .i64 x]) ∧ Below w.heap.size w w' := by
  have hmf : ∀ (fn : Fn) (first cap : Array Value) (w : World), (Instr.makeFunc fn first cap).run Tryd.prog w = .ok (.func fn first cap) w := fun _ _ _ _ => rfl
  have H := Lib.hid h
  clear h
  go_enter Tryd.func21, Tryd.ntmps21
  go_wp2_with fail
  refine (attempt_no 48 _ x _ (enter_div _) (H.out ⟨w.heap.size, 0, none⟩ ⟨w.heap.size + 1, 0, none⟩ _ ?_ ?_)).mono ?_
  · simp [go_sem]
  · simp [go_sem]
  rintro e w1 ⟨rfl, hb⟩
  go_wp2_with fail
  go_ret2
  exact ⟨rfl, (((Below.refl _ _).alloc (Nat.le_refl _) _).alloc (by simp) _).trans (hb.mono (by simp; omega))⟩

theorem div_any (a b : Int) (w : World) :
    Calls Tryd.prog 21 #[.int .i64 a, .int .i64 b] w fun e w' => e = .returned (.tuple #[.int .i64 (divN a b), .int .i64 (divE a b)]) ∧ Below w.heap.size w w' := by
  by_cases ha : inRange a = true
  · by_cases hb : inRange b = true
    · by_cases h0 : b = 0
      · have e1 : divN a b = 0 := by unfold divN; rw [ha, hb, if_pos (show (true && true) = true from rfl), if_pos h0]
        have e2 : divE a b = 1 := by unfold divE; rw [ha, hb, if_pos (show (true && true) = true from rfl), if_pos h0]
        rw [e1, e2]
        exact div_of_no a b 1 w fun p q W hp hq => div_work_zero p q a W hp (h0 ▸ hq) (inRange_yes ha).1 (inRange_yes ha).2
      · by_cases hc : inRange (divQ a b) = true
        · have e1 : divN a b = divQ a b := by unfold divN; rw [ha, hb, if_pos (show (true && true) = true from rfl), if_neg h0, if_pos hc]
          have e2 : divE a b = 0 := by unfold divE; rw [ha, hb, if_pos (show (true && true) = true from rfl), if_neg h0, if_pos hc]
          rw [e1, e2]
          by_cases hn : b < 0
          · exact div_of_ok a b _ w fun p q W hp hq => div_work_neg p q a b _ W hp hq (inRange_yes ha).1 (inRange_yes ha).2 hn (inRange_yes hb).1 (by unfold divQ; rw [if_pos hn]) (inRange_yes hc).1 (inRange_yes hc).2
          · exact div_of_ok a b _ w fun p q W hp hq => div_work_pos p q a b _ W hp hq (inRange_yes ha).1 (inRange_yes ha).2 (by omega) (inRange_yes hb).2 (by unfold divQ; rw [if_neg hn]) (inRange_yes hc).1 (inRange_yes hc).2
        · have e1 : divN a b = 0 := by unfold divN; rw [ha, hb, if_pos (show (true && true) = true from rfl), if_neg h0, if_neg hc]
          have e2 : divE a b = 2 := by unfold divE; rw [ha, hb, if_pos (show (true && true) = true from rfl), if_neg h0, if_neg hc]
          rw [e1, e2]
          by_cases hn : b < 0
          · exact div_of_no a b 2 w fun p q W hp hq => div_work_neg_no p q a b _ W hp hq (inRange_yes ha).1 (inRange_yes ha).2 hn (inRange_yes hb).1 (by unfold divQ; rw [if_pos hn]) (inRange_no hc)
          · exact div_of_no a b 2 w fun p q W hp hq => div_work_pos_no p q a b _ W hp hq (inRange_yes ha).1 (inRange_yes ha).2 (by omega) (inRange_yes hb).2 (by unfold divQ; rw [if_neg hn]) (inRange_no hc)
    · have e1 : divN a b = 0 := by unfold divN; rw [ha, Bool.eq_false_iff.2 hb]; rfl
      have e2 : divE a b = 2 := by unfold divE; rw [ha, Bool.eq_false_iff.2 hb]; rfl
      rw [e1, e2]
      exact div_of_no a b 2 w fun p q W hp hq => div_work_b p q a b W hp hq (inRange_yes ha).1 (inRange_yes ha).2 (inRange_no hb)
  · have e1 : divN a b = 0 := by unfold divN; rw [Bool.eq_false_iff.2 ha]; rfl
    have e2 : divE a b = 2 := by unfold divE; rw [Bool.eq_false_iff.2 ha]; rfl
    rw [e1, e2]
    exact div_of_no a b 2 w fun p q W hp hq => div_work_a p q a b W hp hq (inRange_no ha)
end Go.Proofs.YtmimeconkmfkfaaDoor
