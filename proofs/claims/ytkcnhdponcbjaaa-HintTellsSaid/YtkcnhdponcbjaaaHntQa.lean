/-
  The document's Need, part, bounds and Why.
-/
import Derived.Test.YtkcnhdponcbjaaaHntC
namespace Go.Proofs.Ytkcnhdponcbjaaa
open Go.RowKit Bt Hnt

theorem lenB_half {m : Nat} (h : 0 < m) : lenB m = 1 + lenB (m / 2) := by
  by_cases h1 : m = 1
  · subst h1; rfl
  · exact lenB_shift (k := 1) (by omega)

set_option maxRecDepth 100000 in
set_option maxHeartbeats 2000000 in
theorem qneed_any (n : Int) (w : World) (hn : -9223372036854775808 ≤ n) (hn2 : n ≤ 9223372036854775807) :
    Calls Try.prog 15 #[.int .i64 n] w fun e w' => e = .returned (.int .i64 (needN n : Nat)) ∧ w = w' := by
  by_cases h0 : n ≤ 0
  · have e : needN n = 0 := by unfold needN; rw [show n.toNat = 0 by omega]; rfl
    rw [e]
    have h1 : ¬ 0 < n := by omega
    go_enter Try.func15, Try.ntmps15
    go_wp2_with fail
    go_loop [0, 3] (fun nv bv => nv = .int .i64 n ∧ bv = .int .i64 0) (fun _ _ => 0)
    case atStart => exact ⟨rfl, rfl⟩
    case round =>
      obtain ⟨rfl, rfl⟩ := hrel
      go_wp2_with fail
      go_ret
      exact ⟨rfl, rfl⟩
  · obtain ⟨k, rfl⟩ : ∃ k : Nat, n = (k : Int) := ⟨n.toNat, by omega⟩
    have e : needN (k : Int) = lenB k := by unfold needN; rw [Int.toNat_natCast]
    have hk63 : k ≤ 9223372036854775807 := by omega
    rw [e]
    obtain ⟨L, hL⟩ : ∃ L, lenB k = L := ⟨_, rfl⟩
    have hL63 : L ≤ 64 := by rw [← hL]; exact lenB_le (by have : (2 : Nat) ^ 64 = 18446744073709551616 := rfl; omega)
    have HL := Lib.hid hL
    rw [hL]
    clear hL h0 e hn hn2
    go_enter Try.func15, Try.ntmps15
    go_wp2_with fail
    go_loop [0, 3] (fun nv bv => ∃ m j : Nat, m ≤ 9223372036854775807 ∧ nv = .int .i64 (m : Int) ∧ bv = .int .i64 (j : Int) ∧ j ≤ 64 ∧ Hid (j + lenB m = L)) (fun nv _ => (intOf nv).toNat)
    case atStart => exact ⟨k, 0, hk63, rfl, rfl, by omega, Lib.hid (by rw [HL.out]; omega)⟩
    case round =>
      obtain ⟨m, j, hm, rfl, rfl, hj, HE⟩ := hrel
      by_cases hm0 : 0 < m
      · have hE2 : j + 1 + lenB (m / 2) = L := by have := HE.out; rw [lenB_half hm0] at this; omega
        have HE2 := Lib.hid hE2
        have hj2 : j + 1 ≤ 64 := by omega
        have hm1 : (0 : Int) < (m : Int) := by omega
        have hdiv : ((m : Int)).tdiv 2 = ((m / 2 : Nat) : Int) := by rw [Int.tdiv_eq_ediv_of_nonneg (by omega)]; rfl
        clear hE2
        go_wp2_with fail
        go_round
        case rel => exact ⟨m / 2, j + 1, by omega, by go_num, by go_num, by omega, HE2⟩
        case measure => simp [intOf]; omega
      · obtain rfl : m = 0 := by omega
        have hE : j = L := by have := HE.out; rw [lenB_zero] at this; omega
        subst hE
        go_wp2_with fail
        go_ret
        exact ⟨rfl, rfl⟩
set_option maxRecDepth 100000 in
set_option maxHeartbeats 2000000 in
theorem part_any (x y z : Int) (c : Nat) (hc : c < 3) (w : World) :
    Calls Try.prog 27 #[.agg #[.int .i64 x, .int .i64 y, .int .i64 z], .int .i64 (c : Int)] w fun e w' => e = .returned (.int .i64 (clm c (x, y, z))) ∧ Below w.heap.size w w' := by
  rcases (show c = 0 ∨ c = 1 ∨ c = 2 by omega) with rfl | rfl | rfl
  all_goals
    go_enter Try.func27, Try.ntmps27
    go_wp2_with fail
    go_ret
    exact ⟨rfl, (Below.refl _ w).alloc (Nat.le_refl _) _⟩
end Go.Proofs.Ytkcnhdponcbjaaa
