/-
  The walks of Whole and Mul: each returns what the plain functions say, with its error.
-/
import Derived.Test.YtmimeconkmfkfaaDoorFixC
namespace Go.Proofs.YtmimeconkmfkfaaDoor
open Go.RowKit Fix

theorem near_range (n d : Int) (w : World) (hd : 0 < d) (h1 : n < -4611686018427387904 ∨ 4611686018427387904 < n) :
    Calls Tryd.prog 11 #[.int .i64 n, .int .i64 d] w fun e w' => e = .returned (.tuple #[.int .i64 0, .int .i64 2]) ∧ Below w.heap.size w w' := by
  have hmf : ∀ (fn : Fn) (first cap : Array Value) (w : World), (Instr.makeFunc fn first cap).run Tryd.prog w = .ok (.func fn first cap) w := fun _ _ _ _ => rfl
  have H1 := Lib.hid h1
  clear h1
  go_enter Tryd.func11, Tryd.ntmps11
  go_wp2_with fail
  refine (attempt_no 37 _ 2 _ (enter_near _) (near_work_no ⟨w.heap.size, 0, none⟩ ⟨w.heap.size + 1, 0, none⟩ n _ ?_ d ?_ H1.out)).mono ?_
  · simp [go_sem]
  · simp [go_sem]
  rintro e w1 ⟨rfl, hb⟩
  go_wp2_with fail
  go_ret2
  exact ⟨rfl, (((Below.refl _ _).alloc (Nat.le_refl _) _).alloc (by simp) _).trans (hb.mono (by simp; omega))⟩

theorem whole_any (n : Int) (w : World) (h1 : -9223372036854775808 ≤ n) (h2 : n ≤ 9223372036854775807) :
    Calls Tryd.prog 17 #[.int .i64 n] w fun e w' => e = .returned (.int .i64 (nearS n 10000)) ∧ ∃ k, w' = w.drewN k := by
  have hq : -4611686018427387904 ≤ n.tdiv 10000 ∧ n.tdiv 10000 ≤ 4611686018427387904 := by
    have e := Int.mul_tdiv_add_tmod n 10000
    have r1 := Int.tmod_lt_of_pos n (by decide : (0 : Int) < 10000)
    have r2 := Int.lt_tmod_of_pos n (by decide : (0 : Int) < 10000)
    omega
  have HQ := Lib.hid hq
  clear hq h1 h2
  go_enter Tryd.func17, Tryd.ntmps17
  go_wp2_with fail
  refine (near_any n 10000 _ (by decide) (by decide) HQ.out).mono ?_
  rintro e w1 ⟨rfl, k, rfl⟩
  go_wp2_with fail
  go_ret
  exact ⟨rfl, _, rfl⟩

/-- A product of two numbers in range, and its quotient by One. -/
theorem mul_bounds {a b : Int} (a1 : -1073741824 ≤ a) (a2 : a ≤ 1073741824) (b1 : -1073741824 ≤ b) (b2 : b ≤ 1073741824) : -1152921504606846976 ≤ a * b ∧ a * b ≤ 1152921504606846976 := by
  have h : (a * b).natAbs ≤ 1073741824 * 1073741824 := by
    rw [Int.natAbs_mul]
    exact Nat.mul_le_mul (by omega) (by omega)
  omega
theorem div_bounds {n : Int} (h1 : -4611686018427387904 ≤ n) (h2 : n ≤ 4611686018427387904) : -4611686018427387904 ≤ n.tdiv 10000 ∧ n.tdiv 10000 ≤ 4611686018427387904 := by
  have e := Int.mul_tdiv_add_tmod n 10000
  have r1 := Int.tmod_lt_of_pos n (by decide : (0 : Int) < 10000)
  have r2 := Int.lt_tmod_of_pos n (by decide : (0 : Int) < 10000)
  omega

theorem mul_work_ok (p q : Addr) (a b c : Int) (w : World) (hp : w.cell? p = some (.int .i64 a)) (hq : w.cell? q = some (.int .i64 b)) (a1 : -1073741824 ≤ a) (a2 : a ≤ 1073741824) (b1 : -1073741824 ≤ b) (b2 : b ≤ 1073741824)
    (c0 : nearS (a * b) 10000 = c) (c1 : -1073741824 ≤ c) (c2 : c ≤ 1073741824) :
    Calls Tryd.prog 46 #[.pointer (some p), .pointer (some q)] w fun e w' => e = .returned (.int .i64 c) ∧ ∃ k, w' = w.drewN k := by
  have hm := mul_bounds a1 a2 b1 b2
  have hw : IntKind.i64.wrap (a * b) = a * b := IntWalk.i64_in _ (by omega)
  have hdiv := div_bounds (by omega : -4611686018427387904 ≤ a * b) (by omega)
  have hn : ∀ W : World, Calls Tryd.prog 38 #[.int .i64 (a * b), .int .i64 10000] W fun e w' => e = .returned (.int .i64 c) ∧ ∃ k, w' = W.drewN k := fun W => c0 ▸ near_any _ _ _ (by decide) (by decide) hdiv
  have HN := Lib.hid hn
  clear hn hdiv c0 hm
  go_enter Tryd.func46, Tryd.ntmps46
  go_wp2_with fail
  go_quiet ((first | (go_at_call 34; exact Calls.quiet_of_same (sized_s _ _ (by omega) (by omega))) | (go_at_call 38; exact Calls.quiet_of (HN.out _))))
  go_wp2
  go_ret
  exact ⟨rfl, _, rfl⟩

theorem mul_work_a (p q : Addr) (a b : Int) (w : World) (hp : w.cell? p = some (.int .i64 a)) (hq : w.cell? q = some (.int .i64 b)) (h : a < -1073741824 ∨ 1073741824 < a) :
    Calls Tryd.prog 46 #[.pointer (some p), .pointer (some q)] w fun e w' => e = gaveUp 2 ∧ ∃ k, w' = w.drewN k := by
  have H := Lib.hid h
  clear h
  go_enter Tryd.func46, Tryd.ntmps46
  go_wp2_with fail
  go_region_dies
  all_goals
    refine (sized_no _ _ H.out).mono ?_
    rintro e w' ⟨rfl, rfl⟩
    exact ⟨rfl, rfl, 1, rfl⟩

theorem mul_work_b (p q : Addr) (a b : Int) (w : World) (hp : w.cell? p = some (.int .i64 a)) (hq : w.cell? q = some (.int .i64 b)) (a1 : -1073741824 ≤ a) (a2 : a ≤ 1073741824) (h : b < -1073741824 ∨ 1073741824 < b) :
    Calls Tryd.prog 46 #[.pointer (some p), .pointer (some q)] w fun e w' => e = gaveUp 2 ∧ ∃ k, w' = w.drewN k := by
  have H := Lib.hid h
  clear h
  go_enter Tryd.func46, Tryd.ntmps46
  go_wp2_with fail
  go_region_dies
  all_goals
    refine (sized_ok _ _ a1 a2).mono ?_
    rintro e w' ⟨rfl, rfl⟩
    rename_i K hK
    refine hK _ _ ?_
    first | (refine wpAny_ready (rs := [3]) (by decide +kernel) (by simp) ?_; refine AllReady.cons rfl (fun K' hK' => ?_) AllReady.nil; go_simp) | ((refine wpAny_ready (rs := [2]) (by decide +kernel) (by simp) ?_; refine AllReady.cons rfl (fun K' hK' => ?_) AllReady.nil; go_simp); refine hK' _ _ ?_; clear hK' K'; (refine wpAny_ready (rs := [3]) (by decide +kernel) (by simp) ?_; refine AllReady.cons rfl (fun K' hK' => ?_) AllReady.nil; go_simp))
    refine (sized_no _ _ H.out).mono ?_
    rintro e w' ⟨rfl, rfl⟩
    exact ⟨rfl, rfl, 1, rfl⟩

set_option maxHeartbeats 1600000 in
theorem mul_work_c (p q : Addr) (a b c : Int) (w : World) (hp : w.cell? p = some (.int .i64 a)) (hq : w.cell? q = some (.int .i64 b)) (a1 : -1073741824 ≤ a) (a2 : a ≤ 1073741824) (b1 : -1073741824 ≤ b) (b2 : b ≤ 1073741824)
    (c0 : nearS (a * b) 10000 = c) (h : c < -1073741824 ∨ 1073741824 < c) :
    Calls Tryd.prog 46 #[.pointer (some p), .pointer (some q)] w fun e w' => e = gaveUp 2 ∧ ∃ k, w' = w.drewN k := by
  have hm := mul_bounds a1 a2 b1 b2
  have hw : IntKind.i64.wrap (a * b) = a * b := IntWalk.i64_in _ (by omega)
  have hdiv := div_bounds (by omega : -4611686018427387904 ≤ a * b) (by omega)
  have hn : ∀ W : World, Calls Tryd.prog 38 #[.int .i64 (a * b), .int .i64 10000] W fun e w' => e = .returned (.int .i64 c) ∧ ∃ k, w' = W.drewN k := fun W => c0 ▸ near_any _ _ _ (by decide) (by decide) hdiv
  have HN := Lib.hid hn
  have H := Lib.hid h
  clear hn hdiv c0 hm h
  go_enter Tryd.func46, Tryd.ntmps46
  go_wp2_with fail
  go_region_dies
  all_goals
    refine (sized_ok _ _ a1 a2).mono ?_
    rintro e w' ⟨rfl, rfl⟩
    rename_i K hK
    refine hK _ _ ?_
    first | (refine wpAny_ready (rs := [3]) (by decide +kernel) (by simp) ?_; refine AllReady.cons rfl (fun K' hK' => ?_) AllReady.nil; go_simp) | ((refine wpAny_ready (rs := [2]) (by decide +kernel) (by simp) ?_; refine AllReady.cons rfl (fun K' hK' => ?_) AllReady.nil; go_simp); refine hK' _ _ ?_; clear hK' K'; (refine wpAny_ready (rs := [3]) (by decide +kernel) (by simp) ?_; refine AllReady.cons rfl (fun K' hK' => ?_) AllReady.nil; go_simp))
    refine (sized_ok _ _ b1 b2).mono ?_
    rintro e w' ⟨rfl, rfl⟩
    refine hK' _ _ ?_
    clear hK' K'
    (refine wpAny_ready (rs := [4]) (by decide +kernel) (by simp) ?_; refine AllReady.cons rfl (fun K' hK' => ?_) AllReady.nil; go_simp)
    refine hK' _ _ ?_
    clear hK' K'
    (refine wpAny_ready (rs := [5]) (by decide +kernel) (by simp) ?_; refine AllReady.cons rfl (fun K' hK' => ?_) AllReady.nil; go_simp)
    refine (HN.out _).mono ?_
    rintro e w' ⟨rfl, k, rfl⟩
    refine hK' _ _ ?_
    clear hK' K'
    (refine wpAny_ready (rs := [6]) (by decide +kernel) (by simp) ?_; refine AllReady.cons rfl (fun K' hK' => ?_) AllReady.nil; go_simp)
    refine (sized_no _ _ H.out).mono ?_
    rintro e w' ⟨rfl, rfl⟩
    exact ⟨rfl, rfl, _, rfl⟩
end Go.Proofs.YtmimeconkmfkfaaDoor
