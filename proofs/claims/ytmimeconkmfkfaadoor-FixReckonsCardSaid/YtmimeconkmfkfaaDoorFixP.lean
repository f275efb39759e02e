/-
  The reference: Div whole, Root.
-/
import Derived.Test.YtmimeconkmfkfaaDoorFixO
namespace Go.Proofs.YtmimeconkmfkfaaDoor
open Go.RowKit Fix

theorem divR_any (a b : Int) (w : World) :
    Calls Tryd.prog 22 #[.int .i64 a, .int .i64 b] w fun e w' => e = .returned (.tuple #[.int .i64 (divN a b), .int .i64 (divE a b)]) ∧ w = w' := by
  by_cases ha : inRange a = true
  · by_cases hb : inRange b = true
    · by_cases h0 : b = 0
      · subst h0
        have e1 : divN a 0 = 0 := by unfold divN; rw [ha, hb, if_pos (show (true && true) = true from rfl), if_pos rfl]
        have e2 : divE a 0 = 1 := by unfold divE; rw [ha, hb, if_pos (show (true && true) = true from rfl), if_pos rfl]
        rw [e1, e2]
        have HA := Lib.hid ha
        have HB := Lib.hid hb
        clear ha hb e1 e2
        go_enter Tryd.func22, Tryd.ntmps22
        go_wp2_with fail
        refine (withinR_yes _ _ HA.out).mono ?_
        rintro e w1 ⟨rfl, rfl⟩
        go_wp2_with fail
        refine (withinR_yes _ _ HB.out).mono ?_
        rintro e w1 ⟨rfl, rfl⟩
        go_wp2_with fail
        go_ret2
        exact ⟨rfl, rfl⟩
      · by_cases hn : b < 0
        · have e1 : divN a b = if inRange (nearS (-(a * 10000)) (-b)) then nearS (-(a * 10000)) (-b) else 0 := by
            unfold divN divQ; rw [ha, hb, if_pos (show (true && true) = true from rfl), if_neg h0, if_pos hn]
          have e2 : divE a b = if inRange (nearS (-(a * 10000)) (-b)) then 0 else 2 := by
            unfold divE divQ; rw [ha, hb, if_pos (show (true && true) = true from rfl), if_neg h0, if_pos hn]
          rw [e1, e2]
          exact divR_neg a b w ha hb hn
        · have e1 : divN a b = if inRange (nearS (a * 10000) b) then nearS (a * 10000) b else 0 := by
            unfold divN divQ; rw [ha, hb, if_pos (show (true && true) = true from rfl), if_neg h0, if_neg hn]
          have e2 : divE a b = if inRange (nearS (a * 10000) b) then 0 else 2 := by
            unfold divE divQ; rw [ha, hb, if_pos (show (true && true) = true from rfl), if_neg h0, if_neg hn]
          rw [e1, e2]
          exact divR_pos a b w ha hb (by omega)
    · have e1 : divN a b = 0 := by unfold divN; rw [ha, Bool.eq_false_iff.2 hb]; rfl
      have e2 : divE a b = 2 := by unfold divE; rw [ha, Bool.eq_false_iff.2 hb]; rfl
      rw [e1, e2]
      have HA := Lib.hid ha
      have HB := Lib.hid hb
      clear ha hb e1 e2
      go_enter Tryd.func22, Tryd.ntmps22
      go_wp2_with fail
      refine (withinR_yes _ _ HA.out).mono ?_
      rintro e w1 ⟨rfl, rfl⟩
      go_wp2_with fail
      refine (withinR_no _ _ HB.out).mono ?_
      rintro e w1 ⟨rfl, rfl⟩
      go_wp2_with fail
      go_ret2
      exact ⟨rfl, rfl⟩
  · have e1 : divN a b = 0 := by unfold divN; rw [Bool.eq_false_iff.2 ha]; rfl
    have e2 : divE a b = 2 := by unfold divE; rw [Bool.eq_false_iff.2 ha]; rfl
    rw [e1, e2]
    have HA := Lib.hid ha
    clear ha e1 e2
    go_enter Tryd.func22, Tryd.ntmps22
    go_wp2_with fail
    refine (withinR_no _ _ HA.out).mono ?_
    rintro e w1 ⟨rfl, rfl⟩
    go_wp2_with fail
    go_ret2
    exact ⟨rfl, rfl⟩

theorem half_pow (m : Nat) : (2 : Int) ^ (m + 1) / 2 = (2 : Int) ^ m := by rw [Int.pow_succ, Int.mul_ediv_cancel _ (by decide)]

set_option maxHeartbeats 1600000 in
theorem rootR_ok (n s : Int) (w : World) (hn : 0 ≤ n) (hn2 : n ≤ 1073741824) (s0 : 0 ≤ s) (s1 : s * s ≤ n * 10000) (s2 : n * 10000 < (s + 1) * (s + 1)) :
    Calls Tryd.prog 14 #[.int .i64 n] w fun e w' => e = .returned (.tuple #[.int .i64 s, .int .i64 0]) ∧ w = w' := by
  have S := Lib.hid (And.intro s0 (And.intro s1 s2))
  have HI : Hid (inRange n = true) := Lib.hid (by unfold inRange; simp; omega)
  clear s0 s1 s2
  have hn3 : ¬ n < 0 := by omega
  have hw0 : IntKind.i64.wrap (n * 10000) = n * 10000 := IntWalk.i64_in _ (by omega)
  go_enter Tryd.func14, Tryd.ntmps14
  go_wp2_with fail
  refine (withinR_yes _ _ HI.out).mono ?_
  rintro e w1 ⟨rfl, rfl⟩
  go_wp2_with fail
  go_loopw [4, 5] (fun v i wr => ∃ (j : Nat) (x b : Int), j ≤ 31 ∧ v = .int .i64 x ∧ i = .int .i64 b ∧ 0 ≤ x ∧ Hid (b = (2 : Int) ^ j / 2 ∧ x + (2 : Int) ^ j ≤ 2147483648 ∧ x * x ≤ n * 10000 ∧ n * 10000 < (x + (2 : Int) ^ j) * (x + (2 : Int) ^ j)) ∧ wr = w) (fun _ i _ => (intOf i).toNat)
  case atStart => exact ⟨31, 0, 1073741824, by omega, rfl, rfl, by omega, Lib.hid ⟨by decide, by decide, by omega, by simp; omega⟩, rfl⟩
  case round =>
    obtain ⟨j, x, b, hj, rfl, rfl, hx, hinv, rfl⟩ := hrel
    obtain ⟨i0, i1, i2, i3⟩ := hinv.out
    clear hinv
    cases j with
    | zero =>
      obtain ⟨s0, s1, s2⟩ := S.out
      have hb : b = 0 := i0.trans (by decide)
      subst hb
      obtain rfl : x = s := root_unique (n * 10000) x s hx s0 i2 i3 s1 s2
      clear i0 i1 i2 i3 s0 s1 s2
      go_wp2_with fail
      go_ret2
      exact ⟨rfl, rfl⟩
    | succ m =>
      rw [half_pow] at i0
      have hp : (2 : Int) ^ (m + 1) = 2 * (2 : Int) ^ m := by rw [Int.pow_succ, Int.mul_comm]
      have hpos : 0 < (2 : Int) ^ m := Int.pow_pos (by decide)
      rw [hp] at i1 i3
      rw [← i0] at i1 i3 hpos
      have HB := Lib.hid i0
      clear i0 hp
      have hb1 : (x + b) * (x + b) ≤ 2147483648 * 2147483648 := Int.mul_le_mul (by omega) (by omega) (by omega) (by omega)
      have hb0 : 0 ≤ (x + b) * (x + b) := Int.mul_nonneg (by omega) (by omega)
      have hw1 : IntKind.i64.wrap (x + b) = x + b := IntWalk.i64_in _ (by omega)
      have hw2 : IntKind.i64.wrap ((x + b) * (x + b)) = (x + b) * (x + b) := IntWalk.i64_in _ (by omega)
      have hw3 : IntKind.i64.wrap (b.tdiv 2) = b / 2 := by rw [Int.tdiv_eq_ediv_of_nonneg (by omega)]; exact IntWalk.i64_in _ (by omega)
      have hstep := root_step (n * 10000) x b hx hpos i2 i3
      have HS := Lib.hid (And.intro hstep (And.intro i1 hpos))
      clear hstep i1 i2 i3 hb0 hb1
      by_cases hle : (x + b) * (x + b) ≤ n * 10000
      · go_wp2
        go_roundw
        case rel =>
          obtain ⟨g1, g2, g3⟩ := HS.out
          rw [if_pos hle] at g1
          exact ⟨m, x + b, b / 2, by omega, rfl, by first | rfl | go_num, by omega, Lib.hid ⟨by rw [HB.out], by rw [← HB.out]; omega, g1.1, by rw [← HB.out]; exact g1.2⟩, trivial⟩
        case measure => simp [intOf]; omega
      · go_wp2
        go_roundw
        case rel =>
          obtain ⟨g1, g2, g3⟩ := HS.out
          rw [if_neg hle] at g1
          exact ⟨m, x, b / 2, by omega, rfl, by first | rfl | go_num, by omega, Lib.hid ⟨by rw [HB.out], by rw [← HB.out]; omega, g1.1, by rw [← HB.out]; exact g1.2⟩, trivial⟩
        case measure => simp [intOf]; omega

theorem rootR_any (n : Int) (w : World) :
    Calls Tryd.prog 14 #[.int .i64 n] w fun e w' => e = .returned (.tuple #[.int .i64 (rootN n), .int .i64 (rootE n)]) ∧ w = w' := by
  by_cases ha : inRange n = true
  · by_cases h0 : n < 0
    · have e1 : rootN n = 0 := by unfold rootN; rw [if_pos ha, if_pos h0]
      have e2 : rootE n = 1 := by unfold rootE; rw [if_pos ha, if_pos h0]
      rw [e1, e2]
      have HA := Lib.hid ha
      clear ha e1 e2
      go_enter Tryd.func14, Tryd.ntmps14
      go_wp2_with fail
      refine (withinR_yes _ _ HA.out).mono ?_
      rintro e w1 ⟨rfl, rfl⟩
      go_wp2_with fail
      go_ret2
      exact ⟨rfl, rfl⟩
    · have e1 : rootN n = rootS (n * 10000) := by unfold rootN; rw [if_pos ha, if_neg h0]
      have e2 : rootE n = 0 := by unfold rootE; rw [if_pos ha, if_neg h0]
      rw [e1, e2]
      obtain ⟨r0, r1, r2⟩ := rootS_spec (n * 10000) (by omega)
      exact rootR_ok n _ w (by omega) (inRange_yes ha).2 r0 r1 r2
  · have e1 : rootN n = 0 := by unfold rootN; rw [if_neg ha]
    have e2 : rootE n = 2 := by unfold rootE; rw [if_neg ha]
    rw [e1, e2]
    have HA := Lib.hid ha
    clear ha e1 e2
    go_enter Tryd.func14, Tryd.ntmps14
    go_wp2_with fail
    refine (withinR_no _ _ HA.out).mono ?_
    rintro e w1 ⟨rfl, rfl⟩
    go_wp2_with fail
    go_ret2
    exact ⟨rfl, rfl⟩
end Go.Proofs.YtmimeconkmfkfaaDoor
