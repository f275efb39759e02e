/-
  root: bit by bit, the integer square root.
-/
import Derived.Test.YtmimeconkmfkfaaDoorFixG
import Derived.LoopTactic
import Derived.Laws.Shifts
namespace Go.Proofs.YtmimeconkmfkfaaDoor
open Go.RowKit Fix

theorem wrap_pow (k : Nat) : IntKind.i64.wrap ((2 : Int) ^ (21 - k)) = (2 : Int) ^ (21 - k) := by
  have hb : (2 : Nat) ^ (21 - k) ≤ 2 ^ 21 := Nat.pow_le_pow_right (by decide) (by omega)
  have hc : ((2 : Int) ^ (21 - k)) = ((2 ^ (21 - k) : Nat) : Int) := by norm_cast
  generalize (2 : Nat) ^ (21 - k) = m at hb hc
  rw [hc]
  exact IntWalk.i64_in _ (by omega)
theorem pow_half (k : Nat) (h : k < 22) : (2 : Int) ^ (22 - k) = 2 * (2 : Int) ^ (21 - k) := by
  rw [show 22 - k = (21 - k) + 1 by omega, Int.pow_succ, Int.mul_comm]
theorem pow_pos21 (k : Nat) : 0 < (2 : Int) ^ (21 - k) := Int.pow_pos (by decide)

set_option maxHeartbeats 1600000 in
theorem root_any (n s : Int) (w : World) (hn : 0 ≤ n) (hn2 : n ≤ 10737418240000) (s0 : 0 ≤ s) (s1 : s * s ≤ n) (s2 : n < (s + 1) * (s + 1)) :
    Calls Tryd.prog 42 #[.int .i64 n] w fun e w' => e = .returned (.int .i64 s) ∧ w' = w := by
  have S := Lib.hid (And.intro s0 (And.intro s1 s2))
  clear s0 s1 s2
  have HN := Lib.hid hn2
  go_enter Tryd.func42, Tryd.ntmps42
  go_wp2
  go_loopw [3, 6] (fun v i wr => ∃ (k : Nat) (r : Int), k ≤ 22 ∧ v = .int .i64 r ∧ i = .int .i64 k ∧ 0 ≤ r ∧ Hid (r + (2 : Int) ^ (22 - k) ≤ 4194304 ∧ r * r ≤ n ∧ n < (r + (2 : Int) ^ (22 - k)) * (r + (2 : Int) ^ (22 - k))) ∧ wr = w) (fun _ i _ => 22 - (intOf i).toNat)
  case atStart => exact ⟨0, 0, by omega, rfl, rfl, by omega, Lib.hid ⟨by decide, by omega, by have := HN.out; simp; omega⟩, rfl⟩
  case round =>
    obtain ⟨k, r, hk, rfl, rfl, hr, hinv, rfl⟩ := hrel
    by_cases hlt : k < 22
    · have hw00 := wrap_pow k
      obtain ⟨i1, i2, i3⟩ := hinv.out
      have hp := pow_half k hlt
      have hpos := pow_pos21 k
      have hk1 : 22 - (k + 1) = 21 - k := by omega
      rw [hp] at i1 i3
      generalize hB : (2 : Int) ^ (21 - k) = B at hp hpos i1 i3
      have hw0 : IntKind.i64.wrap ((2 : Int) ^ (21 - k)) = B := hw00.trans hB
      clear hw00
      have hb1 : (r + B) * (r + B) ≤ 4194304 * 4194304 := Int.mul_le_mul (by omega) (by omega) (by omega) (by omega)
      have hb0 : 0 ≤ (r + B) * (r + B) := Int.mul_nonneg (by omega) (by omega)
      have hw1 : IntKind.i64.wrap (r + B) = r + B := IntWalk.i64_in _ (by omega)
      have hw2 : IntKind.i64.wrap ((r + B) * (r + B)) = (r + B) * (r + B) := IntWalk.i64_in _ (by omega)
      have hstep := root_step n r B hr hpos i2 i3
      have HS := Lib.hid (And.intro hstep (And.intro i1 (And.intro hpos (And.intro hB hk1))))
      clear hstep i1 i2 i3 hb0 hb1 hp hpos hinv hB hk1
      by_cases hle : (r + B) * (r + B) ≤ n
      · go_wp2
        go_roundw
        case rel =>
          obtain ⟨g1, g2, g3, g4, g5⟩ := HS.out
          rw [if_pos hle] at g1
          exact ⟨k + 1, r + B, by omega, rfl, by go_num, by omega, Lib.hid ⟨by rw [g5, g4]; omega, g1.1, by rw [g5, g4]; exact g1.2⟩, trivial⟩
        case measure => simp [intOf]; omega
      · go_wp2
        go_roundw
        case rel =>
          obtain ⟨g1, g2, g3, g4, g5⟩ := HS.out
          rw [if_neg hle] at g1
          exact ⟨k + 1, r, by omega, rfl, by go_num, by omega, Lib.hid ⟨by rw [g5, g4]; omega, g1.1, by rw [g5, g4]; exact g1.2⟩, trivial⟩
        case measure => simp [intOf]; omega
    · obtain rfl : k = 22 := by omega
      obtain ⟨i1, i2, i3⟩ := hinv.out
      obtain ⟨s0, s1, s2⟩ := S.out
      obtain rfl : r = s := root_unique n r s hr s0 i2 i3 s1 s2
      clear i1 i2 i3 s0 s1 s2 hinv
      go_wp2
      go_ret
      exact ⟨rfl, rfl⟩
end Go.Proofs.YtmimeconkmfkfaaDoor
