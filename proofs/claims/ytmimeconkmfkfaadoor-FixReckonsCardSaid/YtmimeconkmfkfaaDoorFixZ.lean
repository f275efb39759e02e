/-
  The work of fix.Read: the number, or giving up.
-/
import Derived.Test.YtmimeconkmfkfaaDoorFixX
import Derived.Test.YtmimeconkmfkfaaDoorFixRm
namespace Go.Proofs.YtmimeconkmfkfaaDoor
open Go.RowKit Fix

theorem again_same {P : Program} {f : FuncId} {args : Array Value} {w : World} {a n : Nat} {v : Value} (c : ∀ W : World, Calls P f args W fun e w' => e = .returned v ∧ w' = W) :
    Calls P f args (w.drewN (a + n)) fun e w'' => e = .returned v ∧ ∃ m, w'' = w.drewN (a + m) :=
  (c _).mono fun _ _ ⟨he, hm⟩ => ⟨he, n, hm⟩

theorem count_c (s : ByteArray) (l : List UInt8) (hl : s.data.toList = l) (w : World) (hs : s.size ≤ 4000000000) (hd : l.all isDig = true) :
    Calls Tryd.prog 32 #[.string s] w fun e w' => e = countEnd l ∧ w' = w := by
  subst hl
  exact count_any s w hs hd
theorem countEnd_ok {l : List UInt8} {v : Int} (h : valL 0 l = v) (h2 : v ≤ 1073741824) : countEnd l = .returned (.int .i64 v) := by
  unfold countEnd
  rw [h, if_pos h2]
theorem countEnd_no {l : List UInt8} (h2 : 1073741824 < valL 0 l) : countEnd l = gaveUp 2 := by
  unfold countEnd
  rw [if_neg (by omega)]

/-- count gives up. -/
theorem read_work_big (p q r : Addr) (B D : ByteArray) (l : List UInt8) (w : World) (hp : w.cell? p = some (.string B)) (hq : w.cell? q = some (.string D))
    (hD : 4 ≤ D.size) (hB : B.size ≤ 100) (hl : (B ++ D.extract 0 4).data.toList = l) (hdig : l.all isDig = true) (hv : 1073741824 < valL 0 l) :
    Calls Tryd.prog 31 #[.pointer (some p), .pointer (some q), .pointer (some r)] w fun e w' => e = gaveUp 2 ∧ ∃ k, w' = w.drewN k := by
  have HC : Hid (∀ W : World, Calls Tryd.prog 32 #[.string (B ++ D.extract 0 4)] W fun e w' => e = gaveUp 2 ∧ w' = W) :=
    Lib.hid fun W => by rw [← countEnd_no hv]; exact count_c _ l hl W (by simp; omega) hdig
  have hD' : (4 : Int) ≤ (D.size : Int) := by omega
  have hsz : ¬ 9223372036854775807 < B.size + 4 := by omega
  clear hl hdig hv
  go_enter Tryd.func31, Tryd.ntmps31
  go_wp2_with fail
  go_region_dies
  all_goals
    refine (HC.out _).mono ?_
    rintro e w' ⟨rfl, rfl⟩
    exact ⟨rfl, rfl, 1, rfl⟩

/-- count answers v, and up answers u. -/
theorem read_work (p q r : Addr) (B D : ByteArray) (neg u : Bool) (l : List UInt8) (v x : Int) (w : World) (hp : w.cell? p = some (.string B)) (hq : w.cell? q = some (.string D)) (hr : w.cell? r = some (.bool neg))
    (hD : 4 ≤ D.size) (hB : B.size ≤ 100) (hl : (B ++ D.extract 0 4).data.toList = l) (hdig : l.all isDig = true) (hv : valL 0 l = v) (hv1 : v ≤ 1073741824)
    (hu : ∀ W : World, Calls Tryd.prog 33 #[.string (D.extract 4 D.size), .bool neg] W fun e w' => e = .returned (.bool u) ∧ w' = W)
    (hx : x = if neg then -(if u then v + 1 else v) else (if u then v + 1 else v)) :
    Calls Tryd.prog 31 #[.pointer (some p), .pointer (some q), .pointer (some r)] w fun e w' => e = (if inRange x then .returned (.int .i64 x) else gaveUp 2) ∧ ∃ k, w' = w.drewN k := by
  have HC : Hid (∀ W : World, Calls Tryd.prog 32 #[.string (B ++ D.extract 0 4)] W fun e w' => e = .returned (.int .i64 v) ∧ w' = W) :=
    Lib.hid fun W => by rw [← countEnd_ok hv hv1]; exact count_c _ l hl W (by simp; omega) hdig
  have HU := Lib.hid hu
  have hv0 : 0 ≤ v := by rw [← hv]; exact valL_ge 0 l (by decide) hdig
  have hD' : (4 : Int) ≤ (D.size : Int) := by omega
  clear hl hdig hv hu
  by_cases hin : inRange x = true
  · rw [if_pos hin]
    have HI := Lib.hid (inRange_yes hin)
    clear hin
    cases neg <;> cases u
    all_goals
      simp only [if_true, if_false, Bool.false_eq_true] at hx
      subst hx
      go_enter Tryd.func31, Tryd.ntmps31
      go_wp2_with fail
      go_quiet ((go_at_call 32; exact Calls.quiet_of_same (HC.out _)))
      go_wp2_with fail
      go_quiet ((go_at_call 33; exact again_same HU.out))
      go_wp2_with fail
      refine (sized_ok _ _ HI.out.1 HI.out.2).mono ?_
      rintro e w' ⟨rfl, rfl⟩
      go_wp2_with fail
      go_ret
      exact ⟨rfl, _, rfl⟩
  · rw [if_neg hin]
    have HI := Lib.hid (inRange_no hin)
    clear hin
    cases neg <;> cases u
    all_goals
      simp only [if_true, if_false, Bool.false_eq_true] at hx
      subst hx
      go_enter Tryd.func31, Tryd.ntmps31
      go_wp2_with fail
      go_quiet ((go_at_call 32; exact Calls.quiet_of_same (HC.out _)))
      go_wp2_with fail
      go_quiet ((go_at_call 33; exact again_same HU.out))
      go_wp2_with fail
      refine (sized_no _ _ HI.out).mono ?_
      rintro e w' ⟨rfl, rfl⟩
      exact ⟨rfl, rfl, _, rfl⟩
end Go.Proofs.YtmimeconkmfkfaaDoor
