/-
  Root: what it returns for all numbers.
-/
import Derived.Test.YtmimeconkmfkfaaDoorFixH
namespace Go.Proofs.YtmimeconkmfkfaaDoor
open Go.RowKit Fix

theorem root_exists (n : Nat) : ∃ s : Nat, s * s ≤ n ∧ n < (s + 1) * (s + 1) := by
  induction n with
  | zero => exact ⟨0, by omega, by omega⟩
  | succ n ih =>
    obtain ⟨s, h1, h2⟩ := ih
    by_cases h : n + 1 < (s + 1) * (s + 1)
    · exact ⟨s, by omega, h⟩
    · refine ⟨s + 1, by omega, ?_⟩
      have e : (s + 1 + 1) * (s + 1 + 1) = (s + 1) * (s + 1) + 2 * (s + 1) + 1 := by rw [Nat.add_mul (s + 1) 1, Nat.mul_add (s + 1)]; omega
      omega
theorem root_exists_int (n : Int) (h : 0 ≤ n) : ∃ s : Int, 0 ≤ s ∧ s * s ≤ n ∧ n < (s + 1) * (s + 1) := by
  obtain ⟨s, h1, h2⟩ := root_exists n.toNat
  have h3 : ((s * s : Nat) : Int) ≤ (n.toNat : Int) := by exact_mod_cast h1
  have h4 : (n.toNat : Int) < (((s + 1) * (s + 1) : Nat) : Int) := by exact_mod_cast h2
  rw [Int.toNat_of_nonneg h] at h3 h4
  push_cast at h3 h4
  exact ⟨s, by omega, h3, h4⟩
/-- The integer square root. -/
noncomputable def rootS (n : Int) : Int := if h : 0 ≤ n then (root_exists_int n h).choose else 0
theorem rootS_spec (n : Int) (h : 0 ≤ n) : 0 ≤ rootS n ∧ rootS n * rootS n ≤ n ∧ n < (rootS n + 1) * (rootS n + 1) := by
  unfold rootS
  rw [dif_pos h]
  exact (root_exists_int n h).choose_spec
noncomputable def rootN (a : Int) : Int := if inRange a then (if a < 0 then 0 else rootS (a * 10000)) else 0
def rootE (a : Int) : Int := if inRange a then (if a < 0 then 1 else 0) else 2

theorem enter_root (caps : Array Value) (W : World) : (callFunc 41 caps).run Tryd.prog W = .ok (.enter 41 caps) W := by
  first | kernel_rfl | rfl

theorem root_work_a (p : Addr) (a : Int) (w : World) (hp : w.cell? p = some (.int .i64 a)) (h : a < -1073741824 ∨ 1073741824 < a) :
    Calls Tryd.prog 41 #[.pointer (some p)] w fun e w' => e = gaveUp 2 ∧ ∃ k, w' = w.drewN k := by
  have H := Lib.hid h
  clear h
  go_enter Tryd.func41, Tryd.ntmps41
  go_wp2_with fail
  refine (sized_no _ _ H.out).mono ?_
  rintro e w' ⟨rfl, rfl⟩
  exact ⟨rfl, rfl, 0, rfl⟩
theorem root_work_low (p : Addr) (a : Int) (w : World) (hp : w.cell? p = some (.int .i64 a)) (h1 : -1073741824 ≤ a) (h2 : a < 0) :
    Calls Tryd.prog 41 #[.pointer (some p)] w fun e w' => e = gaveUp 1 ∧ ∃ k, w' = w.drewN k := by
  go_enter Tryd.func41, Tryd.ntmps41
  go_wp2_with fail
  refine (sized_ok _ _ h1 (by omega)).mono ?_
  rintro e w' ⟨rfl, rfl⟩
  go_wp2_with fail
  exact ⟨rfl, rfl, 0, rfl⟩
theorem root_work_ok (p : Addr) (a : Int) (w : World) (hp : w.cell? p = some (.int .i64 a)) (h1 : 0 ≤ a) (h2 : a ≤ 1073741824) :
    Calls Tryd.prog 41 #[.pointer (some p)] w fun e w' => e = .returned (.int .i64 (rootS (a * 10000))) ∧ ∃ k, w' = w.drewN k := by
  have hw : IntKind.i64.wrap (a * 10000) = a * 10000 := IntWalk.i64_in _ (by omega)
  have h3 : ¬ a < 0 := by omega
  obtain ⟨r0, r1, r2⟩ := rootS_spec (a * 10000) (by omega)
  have HR := Lib.hid (And.intro r0 (And.intro r1 r2))
  clear r0 r1 r2
  go_enter Tryd.func41, Tryd.ntmps41
  go_wp2_with fail
  refine (sized_ok _ _ (by omega) h2).mono ?_
  rintro e w' ⟨rfl, rfl⟩
  go_wp2_with fail
  refine (root_any (a * 10000) _ _ (by omega) (by omega) HR.out.1 HR.out.2.1 HR.out.2.2).mono ?_
  rintro e w' ⟨rfl, rfl⟩
  go_wp2_with fail
  go_ret
  exact ⟨rfl, 0, rfl⟩

theorem root_of_ok (a c : Int) (w : World) (h : ∀ (p : Addr) (W : World), W.cell? p = some (.int .i64 a) → Calls Tryd.prog 41 #[.pointer (some p)] W fun e w' => e = .returned (.int .i64 c) ∧ ∃ k, w' = W.drewN k) :
    Calls Tryd.prog 13 #[.int .i64 a] w fun e w' => e = .returned (.tuple #[.int .i64 c, .int .i64 0]) ∧ Below w.heap.size w w' := by
  have hmf : ∀ (fn : Fn) (first cap : Array Value) (w : World), (Instr.makeFunc fn first cap).run Tryd.prog w = .ok (.func fn first cap) w := fun _ _ _ _ => rfl
  have H := Lib.hid h
  clear h
  go_enter Tryd.func13, Tryd.ntmps13
  go_wp2_with fail
  refine (attempt_ok 41 _ c _ (enter_root _) (H.out ⟨w.heap.size, 0, none⟩ _ ?_)).mono ?_
  · simp [go_sem]
  rintro e w1 ⟨rfl, hb⟩
  go_wp2_with fail
  go_ret2
  exact ⟨rfl, ((Below.refl _ _).alloc (Nat.le_refl _) _).trans (hb.mono (by simp))⟩
theorem root_of_no (a x : Int) (w : World) (h : ∀ (p : Addr) (W : World), W.cell? p = some (.int .i64 a) → Calls Tryd.prog 41 #[.pointer (some p)] W fun e w' => e = gaveUp x ∧ ∃ k, w' = W.drewN k) :
    Calls Tryd.prog 13 #[.int .i64 a] w fun e w' => e = .returned (.tuple #[.int .i64 0, .int .i64 x]) ∧ Below w.heap.size w w' := by
  have hmf : ∀ (fn : Fn) (first cap : Array Value) (w : World), (Instr.makeFunc fn first cap).run Tryd.prog w = .ok (.func fn first cap) w := fun _ _ _ _ => rfl
  have H := Lib.hid h
  clear h
  go_enter Tryd.func13, Tryd.ntmps13
  go_wp2_with fail
  refine (attempt_no 41 _ x _ (enter_root _) (H.out ⟨w.heap.size, 0, none⟩ _ ?_)).mono ?_
  · simp [go_sem]
  rintro e w1 ⟨rfl, hb⟩
  go_wp2_with fail
  go_ret2
  exact ⟨rfl, ((Below.refl _ _).alloc (Nat.le_refl _) _).trans (hb.mono (by simp))⟩

theorem rootgo_any (a : Int) (w : World) :
    Calls Tryd.prog 13 #[.int .i64 a] w fun e w' => e = .returned (.tuple #[.int .i64 (rootN a), .int .i64 (rootE a)]) ∧ Below w.heap.size w w' := by
  by_cases ha : inRange a = true
  · by_cases h0 : a < 0
    · have e1 : rootN a = 0 := by unfold rootN; rw [if_pos ha, if_pos h0]
      have e2 : rootE a = 1 := by unfold rootE; rw [if_pos ha, if_pos h0]
      rw [e1, e2]
      exact root_of_no a 1 w fun p W hp => root_work_low p a W hp (inRange_yes ha).1 h0
    · have e1 : rootN a = rootS (a * 10000) := by unfold rootN; rw [if_pos ha, if_neg h0]
      have e2 : rootE a = 0 := by unfold rootE; rw [if_pos ha, if_neg h0]
      rw [e1, e2]
      exact root_of_ok a _ w fun p W hp => root_work_ok p a W hp (by omega) (inRange_yes ha).2
  · have e1 : rootN a = 0 := by unfold rootN; rw [if_neg ha]
    have e2 : rootE a = 2 := by unfold rootE; rw [if_neg ha]
    rw [e1, e2]
    exact root_of_no a 2 w fun p W hp => root_work_a p a W hp (inRange_no ha)
end Go.Proofs.YtmimeconkmfkfaaDoor
