/-
  Dot for all operands.
-/
import Derived.Test.YtbagmjedkcipgaaDoorMgFixL
namespace Go.Proofs.YtbagmjedkcipgaaDoor
open Go.RowKit Fix

def dotQ (xs : List Int) : Int := nearS (dotK xs (xs.length / 2)) 10000
def dotBad (xs : List Int) : Bool := decide (xs.length % 2 = 1) || decide (8 < xs.length)
def dotN (xs : List Int) : Int := if dotBad xs then 0 else if xs.all inRange && inRange (dotQ xs) then dotQ xs else 0
def dotE (xs : List Int) : Int := if dotBad xs then 1 else if xs.all inRange && inRange (dotQ xs) then 0 else 2

theorem enter_dot (caps : Array Value) (W : World) : (callFunc 84 caps).run Tryd.prog W = .ok (.enter 84 caps) W := by
  first | kernel_rfl | rfl

theorem dot_odd (a : Option Addr) (cap n : Nat) (w : World) (hlen : n ≤ 1000000) (h : n % 2 = 1) :
    Calls Tryd.prog 77 #[.slice a n cap] w fun e w' => e = .returned (.tuple #[.int .i64 0, .int .i64 1]) ∧ Below w.heap.size w w' := by
  have h1 : (n : Int).tmod 2 = 1 := by rw [Int.tmod_eq_emod_of_nonneg (by omega)]; omega
  have h1e : (n : Int) % 2 = 1 := by omega
  go_enter Tryd.func77, Tryd.ntmps77
  go_wp2
  go_ret2
  exact ⟨rfl, (Below.refl _ _).alloc (Nat.le_refl _) _⟩
theorem dot_many (a : Option Addr) (cap n : Nat) (w : World) (hlen : n ≤ 1000000) (h0 : n % 2 = 0) (h : 8 < n) :
    Calls Tryd.prog 77 #[.slice a n cap] w fun e w' => e = .returned (.tuple #[.int .i64 0, .int .i64 1]) ∧ Below w.heap.size w w' := by
  have h1 : (n : Int).tmod 2 = 0 := by rw [Int.tmod_eq_emod_of_nonneg (by omega)]; omega
  have h1e : (n : Int) % 2 = 0 := by omega
  have h2 : (8 : Int) < (n : Int) := by omega
  go_enter Tryd.func77, Tryd.ntmps77
  go_wp2
  go_ret2
  exact ⟨rfl, (Below.refl _ _).alloc (Nat.le_refl _) _⟩

theorem dot_any (a : Option Addr) (cap : Nat) (xs : List Int) (w : World) (hlen : xs.length ≤ 1000000) (hc : ReadsInts w a xs) :
    Calls Tryd.prog 77 #[.slice a xs.length cap] w fun e w' => e = .returned (.tuple #[.int .i64 (dotN xs), .int .i64 (dotE xs)]) ∧ Below w.heap.size w w' := by
  have hmf : ∀ (fn : Fn) (first cap : Array Value) (w : World), (Instr.makeFunc fn first cap).run Tryd.prog w = .ok (.func fn first cap) w := fun _ _ _ _ => rfl
  have HC := Lib.hid hc
  clear hc
  by_cases hb : dotBad xs = true
  · have e1 : dotN xs = 0 := by unfold dotN; rw [if_pos hb]
    have e2 : dotE xs = 1 := by unfold dotE; rw [if_pos hb]
    rw [e1, e2]
    unfold dotBad at hb
    by_cases ho : xs.length % 2 = 1
    · exact dot_odd a cap _ w hlen ho
    · exact dot_many a cap _ w hlen (by omega) (by simp at hb; omega)
  · have hb' : xs.length % 2 = 0 ∧ xs.length ≤ 8 := by unfold dotBad at hb; simp at hb; omega
    obtain ⟨h0, h8⟩ := hb'
    have h1 : (xs.length : Int).tmod 2 = 0 := by rw [Int.tmod_eq_emod_of_nonneg (by omega)]; omega
    have h1e : (xs.length : Int) % 2 = 0 := by omega
    have h2 : ¬ (8 : Int) < (xs.length : Int) := by omega
    by_cases h : (xs.all inRange && inRange (dotQ xs)) = true
    · have e1 : dotN xs = dotQ xs := by unfold dotN; rw [if_neg hb, if_pos h]
      have e2 : dotE xs = 0 := by unfold dotE; rw [if_neg hb, if_pos h]
      have e3 : dotEnd xs = .returned (.int .i64 (dotQ xs)) := by unfold dotEnd; unfold dotQ at h ⊢; rw [if_pos h]
      rw [e1, e2]
      have HE := Lib.hid e3
      clear h e1 e2 e3 hb
      go_enter Tryd.func77, Tryd.ntmps77
      go_wp2_with fail
      refine (attempt_ok 84 _ (dotQ xs) _ (enter_dot _) ((dot_work ⟨w.heap.size, 0, none⟩ a cap xs _ ?_ h8 h0 (reads_below HC.out (below_three _ _ _ _))).mono ?_)).mono ?_
      · simp [go_sem]
      · rintro e w1 ⟨he, hw⟩
        exact ⟨he.trans HE.out, hw⟩
      rintro e w1 ⟨rfl, hb⟩
      go_wp2_with fail
      go_ret2
      exact ⟨rfl, ((Below.refl _ _).alloc (Nat.le_refl _) _).trans (hb.mono (by simp))⟩
    · have e1 : dotN xs = 0 := by unfold dotN; rw [if_neg hb, if_neg h]
      have e2 : dotE xs = 2 := by unfold dotE; rw [if_neg hb, if_neg h]
      have e3 : dotEnd xs = gaveUp 2 := by unfold dotEnd; unfold dotQ at h; rw [if_neg h]
      rw [e1, e2]
      have HE := Lib.hid e3
      clear h e1 e2 e3 hb
      go_enter Tryd.func77, Tryd.ntmps77
      go_wp2_with fail
      refine (attempt_no 84 _ 2 _ (enter_dot _) ((dot_work ⟨w.heap.size, 0, none⟩ a cap xs _ ?_ h8 h0 (reads_below HC.out (below_three _ _ _ _))).mono ?_)).mono ?_
      · simp [go_sem]
      · rintro e w1 ⟨he, hw⟩
        exact ⟨he.trans HE.out, hw⟩
      rintro e w1 ⟨rfl, hb⟩
      go_wp2_with fail
      go_ret2
      exact ⟨rfl, ((Below.refl _ _).alloc (Nat.le_refl _) _).trans (hb.mono (by simp))⟩
end Go.Proofs.YtbagmjedkcipgaaDoor
