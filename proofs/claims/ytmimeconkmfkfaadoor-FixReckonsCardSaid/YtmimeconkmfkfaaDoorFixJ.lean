/-
  Sum: the loop over the operands, at whatever slice reads as the list xs.
-/
import Derived.Test.YtmimeconkmfkfaaDoorFixI
namespace Go.Proofs.YtmimeconkmfkfaaDoor
open Go.RowKit Fix

/-- The slice's elements, as the world holds them: at no element nothing is asked of the address. -/
def ReadsInts (w : World) (a : Option Addr) (xs : List Int) : Prop := ∀ j (h : j < xs.length), ∃ b off : Nat, a = some ⟨b, off, none⟩ ∧ w.cell? ⟨b, off + j, none⟩ = some (.int .i64 xs[j])

def sumL (xs : List Int) : Int := xs.foldl (· + ·) 0
theorem sumL_more (xs : List Int) (k : Nat) (h : k < xs.length) : sumL (xs.take (k + 1)) = sumL (xs.take k) + xs[k] := by
  unfold sumL
  rw [List.take_succ_eq_append_getElem h, List.foldl_append]
  rfl
theorem all_more (xs : List Int) (k : Nat) (h : k < xs.length) : (xs.take (k + 1)).all inRange = ((xs.take k).all inRange && inRange xs[k]) := by
  rw [List.take_succ_eq_append_getElem h, List.all_append]
  simp
theorem all_not (xs : List Int) (k : Nat) (h : k < xs.length) (hb : ¬ inRange xs[k] = true) : xs.all inRange = false := by
  rw [List.all_eq_false]
  exact ⟨xs[k], List.getElem_mem h, hb⟩
def sumN (xs : List Int) : Int := if xs.all inRange && inRange (sumL xs) then sumL xs else 0
def sumE (xs : List Int) : Int := if xs.all inRange && inRange (sumL xs) then 0 else 2
/-- How the work of Sum ends. -/
def sumEnd (xs : List Int) : Ending := if xs.all inRange && inRange (sumL xs) then .returned (.int .i64 (sumL xs)) else gaveUp 2
theorem sumEnd_bad (xs : List Int) (h : xs.all inRange = false) : sumEnd xs = gaveUp 2 := by unfold sumEnd; rw [h]; rfl
theorem sumEnd_big (xs : List Int) (h : ¬ inRange (sumL xs) = true) : sumEnd xs = gaveUp 2 := by unfold sumEnd; rw [Bool.eq_false_iff.2 h, Bool.and_false]; rfl
theorem sumEnd_ok (xs : List Int) (h : xs.all inRange = true) (h2 : inRange (sumL xs) = true) : sumEnd xs = .returned (.int .i64 (sumL xs)) := by unfold sumEnd; rw [h, h2]; rfl

set_option maxHeartbeats 1600000 in
theorem sum_work (p : Addr) (a : Option Addr) (cap : Nat) (xs : List Int) (w : World) (hp : w.cell? p = some (.slice a xs.length cap)) (hlen : xs.length ≤ 1000000) (hc : ReadsInts w a xs) :
    Calls Tryd.prog 50 #[.pointer (some p)] w fun e w' => e = sumEnd xs ∧ w' = w := by
  have HC := Lib.hid hc
  clear hc
  go_enter Tryd.func50, Tryd.ntmps50
  go_wp2
  go_loopw [2, 7] (fun v i wr => ∃ (k : Nat) (s : Int), k ≤ xs.length ∧ v = .int .i64 s ∧ i = .int .i64 k ∧ Hid (s = sumL (xs.take k) ∧ (xs.take k).all inRange = true) ∧ Hid (-(1073741824 * (k : Int)) ≤ s ∧ s ≤ 1073741824 * k) ∧ wr = w) (fun _ i _ => xs.length - (intOf i).toNat)
  case atStart => exact ⟨0, 0, by omega, rfl, rfl, Lib.hid ⟨rfl, rfl⟩, Lib.hid ⟨by omega, by omega⟩, rfl⟩
  case round =>
    obtain ⟨k, s, hk, rfl, rfl, hinv, hbd, rfl⟩ := hrel
    by_cases hlt : k < xs.length
    · obtain ⟨b, off, rfl, hcell⟩ := HC.out k hlt
      by_cases hx : inRange xs[k] = true
      · have hx2 := inRange_yes hx
        have hw : IntKind.i64.wrap (s + xs[k]) = s + xs[k] := IntWalk.i64_in _ (by have := hbd.out; omega)
        have HX := Lib.hid (And.intro hx hx2)
        clear hx hx2
        go_wp2_with fail
        refine (sized_ok _ _ HX.out.2.1 HX.out.2.2).mono ?_
        rintro e w' ⟨rfl, rfl⟩
        go_wp2
        go_roundw
        case rel =>
          exact ⟨k + 1, s + xs[k], by omega, rfl, by go_num, Lib.hid ⟨by rw [hinv.out.1, sumL_more xs k hlt], by rw [all_more xs k hlt, hinv.out.2, HX.out.1]; rfl⟩, Lib.hid (by have := hbd.out; have := HX.out.2; omega), trivial⟩
        case measure => simp [intOf]; omega
      · have HB := Lib.hid (inRange_no hx)
        have he := sumEnd_bad xs (all_not xs k hlt hx)
        clear hx
        go_wp2_with fail
        refine (sized_no _ _ HB.out).mono ?_
        rintro e w' ⟨rfl, rfl⟩
        exact ⟨rfl, he.symm, rfl⟩
    · obtain rfl : k = xs.length := by omega
      have hi := hinv.out
      rw [List.take_length] at hi
      by_cases hs : inRange s = true
      · have he := sumEnd_ok xs hi.2 (hi.1 ▸ hs)
        rw [← hi.1] at he
        have HS := Lib.hid (inRange_yes hs)
        have HE := Lib.hid he
        clear hs hi hbd hinv he
        go_wp2_with fail
        refine (sized_ok _ _ HS.out.1 HS.out.2).mono ?_
        rintro e w' ⟨rfl, rfl⟩
        go_wp2
        go_ret
        exact ⟨HE.out.symm, rfl⟩
      · have he := sumEnd_big xs (hi.1 ▸ hs)
        have HB := Lib.hid (inRange_no hs)
        clear hs hi hbd hinv
        go_wp2_with fail
        refine (sized_no _ _ HB.out).mono ?_
        rintro e w' ⟨rfl, rfl⟩
        exact ⟨rfl, he.symm, rfl⟩
end Go.Proofs.YtmimeconkmfkfaaDoor
