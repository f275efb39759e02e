/-
  The reference: Sum and Dot.
-/
import Derived.Test.YtmimeconkmfkfaaDoorFixP
namespace Go.Proofs.YtmimeconkmfkfaaDoor
open Go.RowKit Fix

theorem sumE_bad (xs : List Int) (h : xs.all inRange = false) : sumN xs = 0 ∧ sumE xs = 2 := by unfold sumN sumE; rw [h]; exact ⟨rfl, rfl⟩
theorem sumE_big (xs : List Int) (h : ¬ inRange (sumL xs) = true) : sumN xs = 0 ∧ sumE xs = 2 := by unfold sumN sumE; rw [Bool.eq_false_iff.2 h, Bool.and_false]; exact ⟨rfl, rfl⟩
theorem sumE_ok (xs : List Int) (h : xs.all inRange = true) (h2 : inRange (sumL xs) = true) : sumN xs = sumL xs ∧ sumE xs = 0 := by unfold sumN sumE; rw [h, h2]; exact ⟨rfl, rfl⟩

theorem ret_two {a b c d : Int} (h : c = a ∧ d = b) : Ending.returned (.tuple #[.int .i64 a, .int .i64 b]) = .returned (.tuple #[.int .i64 c, .int .i64 d]) := by rw [h.1, h.2]

set_option maxHeartbeats 1600000 in
theorem sumR_any (a : Option Addr) (cap : Nat) (xs : List Int) (w : World) (hlen : xs.length ≤ 1000000) (hc : ReadsInts w a xs) :
    Calls Tryd.prog 26 #[.slice a xs.length cap] w fun e w' => e = .returned (.tuple #[.int .i64 (sumN xs), .int .i64 (sumE xs)]) ∧ w' = w := by
  have HC := Lib.hid hc
  clear hc
  go_enter Tryd.func26, Tryd.ntmps26
  go_wp2
  go_loopw [4, 5] (fun v i wr => ∃ (k : Nat) (s : Int), k ≤ xs.length ∧ v = .int .i64 s ∧ i = .int .i64 k ∧ Hid (s = sumL (xs.take k) ∧ (xs.take k).all inRange = true) ∧ Hid (-(1073741824 * (k : Int)) ≤ s ∧ s ≤ 1073741824 * k) ∧ wr = w) (fun _ i _ => xs.length - (intOf i).toNat)
  case atStart => exact ⟨0, 0, by omega, rfl, rfl, Lib.hid ⟨rfl, rfl⟩, Lib.hid ⟨by omega, by omega⟩, rfl⟩
  case round =>
    obtain ⟨k, s, hk, rfl, rfl, hinv, hbd, rfl⟩ := hrel
    by_cases hlt : k < xs.length
    · obtain ⟨b, off, rfl, hcell⟩ := HC.out k hlt
      by_cases hx : inRange xs[k] = true
      · have hx2 := inRange_yes hx
        have hw : IntKind.i64.wrap (s + xs[k]) = s + xs[k] := IntWalk.i64_in _ (by have := hbd.out; omega)
        have HX := Lib.hid (And.intro hx hx2)
        clear hx hx2
        go_wp2_with fail
        refine (withinR_yes _ _ HX.out.1).mono ?_
        rintro e w' ⟨rfl, rfl⟩
        go_wp2
        go_roundw
        case rel =>
          exact ⟨k + 1, s + xs[k], by omega, rfl, by go_num, Lib.hid ⟨by rw [hinv.out.1, sumL_more xs k hlt], by rw [all_more xs k hlt, hinv.out.2, HX.out.1]; rfl⟩, Lib.hid (by have := hbd.out; have := HX.out.2; omega), trivial⟩
        case measure => simp [intOf]; omega
      · have HB := Lib.hid hx
        have he := Lib.hid (sumE_bad xs (all_not xs k hlt hx))
        clear hx
        go_wp2_with fail
        refine (withinR_no _ _ HB.out).mono ?_
        rintro e w' ⟨rfl, rfl⟩
        go_wp2
        go_ret2
        exact ⟨ret_two he.out, rfl⟩
    · obtain rfl : k = xs.length := by omega
      have hi := hinv.out
      rw [List.take_length] at hi
      by_cases hs : inRange s = true
      · have he := Lib.hid (sumE_ok xs hi.2 (hi.1 ▸ hs))
        have HS := Lib.hid hs
        have H1 := Lib.hid hi.1
        clear hs hi hbd hinv
        go_wp2_with fail
        refine (toldR_yes _ _ HS.out).mono ?_
        rintro e w' ⟨rfl, rfl⟩
        go_wp2
        go_ret2
        exact ⟨ret_two ⟨he.out.1.trans H1.out.symm, he.out.2⟩, rfl⟩
      · have he := Lib.hid (sumE_big xs (hi.1 ▸ hs))
        have HB := Lib.hid hs
        clear hs hi hbd hinv
        go_wp2_with fail
        refine (toldR_no _ _ HB.out).mono ?_
        rintro e w' ⟨rfl, rfl⟩
        go_wp2
        go_ret2
        exact ⟨ret_two he.out, rfl⟩

theorem dotE_bad (xs : List Int) (hb : dotBad xs = false) (h : xs.all inRange = false) : dotN xs = 0 ∧ dotE xs = 2 := by unfold dotN dotE; rw [h, hb]; exact ⟨rfl, rfl⟩
theorem dotE_big (xs : List Int) (s : Int) (hb : dotBad xs = false) (hs : s = dotK xs (xs.length / 2)) (h : ¬ inRange (nearS s 10000) = true) : dotN xs = 0 ∧ dotE xs = 2 := by
  have h2 : inRange (dotQ xs) = false := by unfold dotQ; rw [← hs]; exact Bool.eq_false_iff.2 h
  unfold dotN dotE; rw [hb, h2, Bool.and_false]; exact ⟨rfl, rfl⟩
theorem dotE_ok (xs : List Int) (s : Int) (hb : dotBad xs = false) (h : xs.all inRange = true) (hs : s = dotK xs (xs.length / 2)) (h2 : inRange (nearS s 10000) = true) : dotN xs = nearS s 10000 ∧ dotE xs = 0 := by
  have h3 : dotQ xs = nearS s 10000 := by unfold dotQ; rw [← hs]
  unfold dotN dotE; rw [hb, h, h3, h2]; exact ⟨rfl, rfl⟩

theorem dotR_odd (a : Option Addr) (cap n : Nat) (w : World) (hlen : n ≤ 1000000) (h : n % 2 = 1) :
    Calls Tryd.prog 24 #[.slice a n cap] w fun e w' => e = .returned (.tuple #[.int .i64 0, .int .i64 1]) ∧ w' = w := by
  have h1 : (n : Int).tmod 2 = 1 := by rw [Int.tmod_eq_emod_of_nonneg (by omega)]; omega
  have h1e : (n : Int) % 2 = 1 := by omega
  go_enter Tryd.func24, Tryd.ntmps24
  go_wp2
  go_ret2
  exact ⟨rfl, rfl⟩
theorem dotR_many (a : Option Addr) (cap n : Nat) (w : World) (hlen : n ≤ 1000000) (h0 : n % 2 = 0) (h : 8 < n) :
    Calls Tryd.prog 24 #[.slice a n cap] w fun e w' => e = .returned (.tuple #[.int .i64 0, .int .i64 1]) ∧ w' = w := by
  have h1 : (n : Int).tmod 2 = 0 := by rw [Int.tmod_eq_emod_of_nonneg (by omega)]; omega
  have h1e : (n : Int) % 2 = 0 := by omega
  have h2 : (8 : Int) < (n : Int) := by omega
  go_enter Tryd.func24, Tryd.ntmps24
  go_wp2
  go_ret2
  exact ⟨rfl, rfl⟩
end Go.Proofs.YtmimeconkmfkfaaDoor
