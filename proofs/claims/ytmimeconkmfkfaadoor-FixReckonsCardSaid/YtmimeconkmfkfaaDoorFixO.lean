/-
  The reference: Mul and Div.
-/
import Derived.Test.YtmimeconkmfkfaaDoorFixN
namespace Go.Proofs.YtmimeconkmfkfaaDoor
open Go.RowKit Fix

theorem mulR_any (a b : Int) (w : World) :
    Calls Tryd.prog 20 #[.int .i64 a, .int .i64 b] w fun e w' => e = .returned (.tuple #[.int .i64 (mulN a b), .int .i64 (mulE a b)]) ∧ w = w' := by
  by_cases ha : inRange a = true
  · by_cases hb : inRange b = true
    · have hm := mul_bounds (inRange_yes ha).1 (inRange_yes ha).2 (inRange_yes hb).1 (inRange_yes hb).2
      have hw : IntKind.i64.wrap (a * b) = a * b := IntWalk.i64_in _ (by omega)
      have hdiv := div_bounds (by omega : -4611686018427387904 ≤ a * b) (by omega)
      have HN : Hid (∀ W : World, Calls Tryd.prog 40 #[.int .i64 (a * b), .int .i64 10000] W fun e w' => e = .returned (.int .i64 (nearS (a * b) 10000)) ∧ W = w') := Lib.hid fun W => nearR_any _ _ _ (by decide) (by decide) hdiv
      by_cases hc : inRange (nearS (a * b) 10000) = true
      · have e1 : mulN a b = nearS (a * b) 10000 := by unfold mulN; rw [ha, hb, hc]; rfl
        have e2 : mulE a b = 0 := by unfold mulE; rw [ha, hb, hc]; rfl
        rw [e1, e2]
        have HA := Lib.hid ha
        have HB := Lib.hid hb
        have H := Lib.hid hc
        clear ha hb hc hm hdiv e1 e2
        go_enter Tryd.func20, Tryd.ntmps20
        go_wp2_with fail
        refine (withinR_yes _ _ HA.out).mono ?_
        rintro e w1 ⟨rfl, rfl⟩
        go_wp2_with fail
        refine (withinR_yes _ _ HB.out).mono ?_
        rintro e w1 ⟨rfl, rfl⟩
        go_wp2_with fail
        refine (HN.out _).mono ?_
        rintro e w1 ⟨rfl, rfl⟩
        go_wp2_with fail
        refine (toldR_yes _ _ H.out).mono ?_
        rintro e w1 ⟨rfl, rfl⟩
        go_wp2_with fail
        go_ret2
        exact ⟨rfl, rfl⟩
      · have e1 : mulN a b = 0 := by unfold mulN; rw [ha, hb, Bool.eq_false_iff.2 hc]; rfl
        have e2 : mulE a b = 2 := by unfold mulE; rw [ha, hb, Bool.eq_false_iff.2 hc]; rfl
        rw [e1, e2]
        have HA := Lib.hid ha
        have HB := Lib.hid hb
        have H := Lib.hid hc
        clear ha hb hc hm hdiv e1 e2
        go_enter Tryd.func20, Tryd.ntmps20
        go_wp2_with fail
        refine (withinR_yes _ _ HA.out).mono ?_
        rintro e w1 ⟨rfl, rfl⟩
        go_wp2_with fail
        refine (withinR_yes _ _ HB.out).mono ?_
        rintro e w1 ⟨rfl, rfl⟩
        go_wp2_with fail
        refine (HN.out _).mono ?_
        rintro e w1 ⟨rfl, rfl⟩
        go_wp2_with fail
        refine (toldR_no _ _ H.out).mono ?_
        rintro e w1 ⟨rfl, rfl⟩
        go_wp2_with fail
        go_ret2
        exact ⟨rfl, rfl⟩
    · have e1 : mulN a b = 0 := by unfold mulN; rw [ha, Bool.eq_false_iff.2 hb]; rfl
      have e2 : mulE a b = 2 := by unfold mulE; rw [ha, Bool.eq_false_iff.2 hb]; rfl
      rw [e1, e2]
      have HA := Lib.hid ha
      have HB := Lib.hid hb
      clear ha hb e1 e2
      go_enter Tryd.func20, Tryd.ntmps20
      go_wp2_with fail
      refine (withinR_yes _ _ HA.out).mono ?_
      rintro e w1 ⟨rfl, rfl⟩
      go_wp2_with fail
      refine (withinR_no _ _ HB.out).mono ?_
      rintro e w1 ⟨rfl, rfl⟩
      go_wp2_with fail
      go_ret2
      exact ⟨rfl, rfl⟩
  · have e1 : mulN a b = 0 := by unfold mulN; rw [Bool.eq_false_iff.2 ha]; rfl
    have e2 : mulE a b = 2 := by unfold mulE; rw [Bool.eq_false_iff.2 ha]; rfl
    rw [e1, e2]
    have HA := Lib.hid ha
    clear ha e1 e2
    go_enter Tryd.func20, Tryd.ntmps20
    go_wp2_with fail
    refine (withinR_no _ _ HA.out).mono ?_
    rintro e w1 ⟨rfl, rfl⟩
    go_wp2_with fail
    go_ret2
    exact ⟨rfl, rfl⟩

theorem divR_neg (a b : Int) (w : World) (ha : inRange a = true) (hb : inRange b = true) (hn : b < 0) :
    Calls Tryd.prog 22 #[.int .i64 a, .int .i64 b] w fun e w' => e = .returned (.tuple #[.int .i64 (if inRange (nearS (-(a * 10000)) (-b)) then nearS (-(a * 10000)) (-b) else 0), .int .i64 (if inRange (nearS (-(a * 10000)) (-b)) then 0 else 2)]) ∧ w = w' := by
  have hr := inRange_yes ha
  have hr' := inRange_yes hb
  have hw1 : IntKind.i64.wrap (-a) = -a := IntWalk.i64_in _ (by omega)
  have hw2 : IntKind.i64.wrap (-b) = -b := IntWalk.i64_in _ (by omega)
  have hw3 : IntKind.i64.wrap (-a * 10000) = -(a * 10000) := by rw [IntWalk.i64_in _ (by omega)]; omega
  have hw4 : IntKind.i64.wrap (-(a * 10000)) = -(a * 10000) := IntWalk.i64_in _ (by omega)
  have hb0 : ¬ b = 0 := by omega
  have hdiv := tdiv_bounds (d := -b) (M := 4611686018427387904) (by omega : -4611686018427387904 ≤ -(a * 10000)) (by omega)
  have HN : Hid (∀ W : World, Calls Tryd.prog 40 #[.int .i64 (-(a * 10000)), .int .i64 (-b)] W fun e w' => e = .returned (.int .i64 (nearS (-(a * 10000)) (-b))) ∧ W = w') := Lib.hid fun W => nearR_any _ _ _ (by omega) (by omega) hdiv
  have HA := Lib.hid ha
  have HB := Lib.hid hb
  clear ha hb hdiv hr hr'
  generalize hc0 : nearS (-(a * 10000)) (-b) = c at HN
  clear hc0
  by_cases hc : inRange c = true
  · rw [if_pos hc, if_pos hc]
    have H := Lib.hid hc
    clear hc
    go_enter Tryd.func22, Tryd.ntmps22
    go_wp2_with fail
    refine (withinR_yes _ _ HA.out).mono ?_
    rintro e w1 ⟨rfl, rfl⟩
    go_wp2_with fail
    refine (withinR_yes _ _ HB.out).mono ?_
    rintro e w1 ⟨rfl, rfl⟩
    go_wp2_with fail
    refine (HN.out _).mono ?_
    rintro e w1 ⟨rfl, rfl⟩
    go_wp2_with fail
    refine (toldR_yes _ _ H.out).mono ?_
    rintro e w1 ⟨rfl, rfl⟩
    go_wp2_with fail
    go_ret2
    exact ⟨rfl, rfl⟩
  · rw [if_neg hc, if_neg hc]
    have H := Lib.hid hc
    clear hc
    go_enter Tryd.func22, Tryd.ntmps22
    go_wp2_with fail
    refine (withinR_yes _ _ HA.out).mono ?_
    rintro e w1 ⟨rfl, rfl⟩
    go_wp2_with fail
    refine (withinR_yes _ _ HB.out).mono ?_
    rintro e w1 ⟨rfl, rfl⟩
    go_wp2_with fail
    refine (HN.out _).mono ?_
    rintro e w1 ⟨rfl, rfl⟩
    go_wp2_with fail
    refine (toldR_no _ _ H.out).mono ?_
    rintro e w1 ⟨rfl, rfl⟩
    go_wp2_with fail
    go_ret2
    exact ⟨rfl, rfl⟩
theorem divR_pos (a b : Int) (w : World) (ha : inRange a = true) (hb : inRange b = true) (hn : 0 < b) :
    Calls Tryd.prog 22 #[.int .i64 a, .int .i64 b] w fun e w' => e = .returned (.tuple #[.int .i64 (if inRange (nearS (a * 10000) b) then nearS (a * 10000) b else 0), .int .i64 (if inRange (nearS (a * 10000) b) then 0 else 2)]) ∧ w = w' := by
  have hr := inRange_yes ha
  have hr' := inRange_yes hb
  have hw3 : IntKind.i64.wrap (a * 10000) = a * 10000 := by rw [IntWalk.i64_in _ (by omega)]
  have hb0 : ¬ b = 0 := by omega
  have hb1 : ¬ b < 0 := by omega
  have hdiv := tdiv_bounds (d := b) (M := 4611686018427387904) (by omega : -4611686018427387904 ≤ a * 10000) (by omega)
  have HN : Hid (∀ W : World, Calls Tryd.prog 40 #[.int .i64 (a * 10000), .int .i64 b] W fun e w' => e = .returned (.int .i64 (nearS (a * 10000) b)) ∧ W = w') := Lib.hid fun W => nearR_any _ _ _ (by omega) (by omega) hdiv
  have HA := Lib.hid ha
  have HB := Lib.hid hb
  clear ha hb hdiv hr hr'
  generalize hc0 : nearS (a * 10000) b = c at HN
  clear hc0
  by_cases hc : inRange c = true
  · rw [if_pos hc, if_pos hc]
    have H := Lib.hid hc
    clear hc
    go_enter Tryd.func22, Tryd.ntmps22
    go_wp2_with fail
    refine (withinR_yes _ _ HA.out).mono ?_
    rintro e w1 ⟨rfl, rfl⟩
    go_wp2_with fail
    refine (withinR_yes _ _ HB.out).mono ?_
    rintro e w1 ⟨rfl, rfl⟩
    go_wp2_with fail
    refine (HN.out _).mono ?_
    rintro e w1 ⟨rfl, rfl⟩
    go_wp2_with fail
    refine (toldR_yes _ _ H.out).mono ?_
    rintro e w1 ⟨rfl, rfl⟩
    go_wp2_with fail
    go_ret2
    exact ⟨rfl, rfl⟩
  · rw [if_neg hc, if_neg hc]
    have H := Lib.hid hc
    clear hc
    go_enter Tryd.func22, Tryd.ntmps22
    go_wp2_with fail
    refine (withinR_yes _ _ HA.out).mono ?_
    rintro e w1 ⟨rfl, rfl⟩
    go_wp2_with fail
    refine (withinR_yes _ _ HB.out).mono ?_
    rintro e w1 ⟨rfl, rfl⟩
    go_wp2_with fail
    refine (HN.out _).mono ?_
    rintro e w1 ⟨rfl, rfl⟩
    go_wp2_with fail
    refine (toldR_no _ _ H.out).mono ?_
    rintro e w1 ⟨rfl, rfl⟩
    go_wp2_with fail
    go_ret2
    exact ⟨rfl, rfl⟩
end Go.Proofs.YtmimeconkmfkfaaDoor
