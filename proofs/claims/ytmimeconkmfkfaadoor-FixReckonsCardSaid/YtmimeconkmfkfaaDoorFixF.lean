/-
  Div: what it returns for all operands.
-/
import Derived.Test.YtmimeconkmfkfaaDoorFixE
namespace Go.Proofs.YtmimeconkmfkfaaDoor
open Go.RowKit Fix

theorem tdiv_bounds {n d M : Int} (h1 : -M ≤ n) (h2 : n ≤ M) : -M ≤ n.tdiv d ∧ n.tdiv d ≤ M := by
  have h := Int.natAbs_tdiv n d
  have h3 : (n.tdiv d).natAbs ≤ n.natAbs := h ▸ Nat.div_le_self _ _
  clear h
  omega

theorem div_work_zero (p q : Addr) (a : Int) (w : World) (hp : w.cell? p = some (.int .i64 a)) (hq : w.cell? q = some (.int .i64 0)) (a1 : -1073741824 ≤ a) (a2 : a ≤ 1073741824) :
    Calls Tryd.prog 48 #[.pointer (some p), .pointer (some q)] w fun e w' => e = gaveUp 1 ∧ ∃ k, w' = w.drewN k := by
  have hw : IntKind.i64.wrap (a * 10000) = a * 10000 := IntWalk.i64_in _ (by omega)
  go_enter Tryd.func48, Tryd.ntmps48
  go_wp2_with fail
  go_quiet ((go_at_call 34; exact Calls.quiet_of_same (sized_s _ _ (by omega) (by omega))))
  go_wp2
  exact ⟨rfl, rfl, _, rfl⟩

set_option maxHeartbeats 1600000 in
theorem div_work_pos (p q : Addr) (a b c : Int) (w : World) (hp : w.cell? p = some (.int .i64 a)) (hq : w.cell? q = some (.int .i64 b)) (a1 : -1073741824 ≤ a) (a2 : a ≤ 1073741824) (b1 : 0 < b) (b2 : b ≤ 1073741824)
    (c0 : nearS (a * 10000) b = c) (c1 : -1073741824 ≤ c) (c2 : c ≤ 1073741824) :
    Calls Tryd.prog 48 #[.pointer (some p), .pointer (some q)] w fun e w' => e = .returned (.int .i64 c) ∧ ∃ k, w' = w.drewN k := by
  have hw : IntKind.i64.wrap (a * 10000) = a * 10000 := IntWalk.i64_in _ (by omega)
  have hdiv := tdiv_bounds (d := b) (M := 4611686018427387904) (by omega : -4611686018427387904 ≤ a * 10000) (by omega)
  have hn : ∀ W : World, Calls Tryd.prog 38 #[.int .i64 (a * 10000), .int .i64 b] W fun e w' => e = .returned (.int .i64 c) ∧ ∃ k, w' = W.drewN k := fun W => c0 ▸ near_any _ _ _ b1 (by omega) hdiv
  have HN := Lib.hid hn
  have b0 : ¬ b = 0 := by omega
  have b3 : ¬ b < 0 := by omega
  clear hn hdiv c0
  go_enter Tryd.func48, Tryd.ntmps48
  go_wp2_with fail
  go_quiet ((go_at_call 34; exact Calls.quiet_of_same (sized_s _ _ (by omega) (by omega))))
  clear hw
  go_wp2_with fail
  refine (HN.out _).mono ?_
  rintro e w' ⟨rfl, k, rfl⟩
  go_wp2_with fail
  refine (sized_ok _ _ c1 c2).mono ?_
  rintro e w' ⟨rfl, rfl⟩
  go_wp2_with fail
  go_ret
  exact ⟨rfl, _, rfl⟩

set_option maxHeartbeats 1600000 in
theorem div_work_pos_no (p q : Addr) (a b c : Int) (w : World) (hp : w.cell? p = some (.int .i64 a)) (hq : w.cell? q = some (.int .i64 b)) (a1 : -1073741824 ≤ a) (a2 : a ≤ 1073741824) (b1 : 0 < b) (b2 : b ≤ 1073741824)
    (c0 : nearS (a * 10000) b = c) (h : c < -1073741824 ∨ 1073741824 < c) :
    Calls Tryd.prog 48 #[.pointer (some p), .pointer (some q)] w fun e w' => e = gaveUp 2 ∧ ∃ k, w' = w.drewN k := by
  have hw : IntKind.i64.wrap (a * 10000) = a * 10000 := IntWalk.i64_in _ (by omega)
  have hdiv := tdiv_bounds (d := b) (M := 4611686018427387904) (by omega : -4611686018427387904 ≤ a * 10000) (by omega)
  have hn : ∀ W : World, Calls Tryd.prog 38 #[.int .i64 (a * 10000), .int .i64 b] W fun e w' => e = .returned (.int .i64 c) ∧ ∃ k, w' = W.drewN k := fun W => c0 ▸ near_any _ _ _ b1 (by omega) hdiv
  have HN := Lib.hid hn
  have H := Lib.hid h
  have b0 : ¬ b = 0 := by omega
  have b3 : ¬ b < 0 := by omega
  clear hn hdiv c0 h
  go_enter Tryd.func48, Tryd.ntmps48
  go_wp2_with fail
  go_quiet ((go_at_call 34; exact Calls.quiet_of_same (sized_s _ _ (by omega) (by omega))))
  clear hw
  go_wp2_with fail
  refine (HN.out _).mono ?_
  rintro e w' ⟨rfl, k, rfl⟩
  go_wp2_with fail
  refine (sized_no _ _ H.out).mono ?_
  rintro e w' ⟨rfl, rfl⟩
  exact ⟨rfl, rfl, _, rfl⟩

set_option maxHeartbeats 1600000 in
theorem div_work_neg (p q : Addr) (a b c : Int) (w : World) (hp : w.cell? p = some (.int .i64 a)) (hq : w.cell? q = some (.int .i64 b)) (a1 : -1073741824 ≤ a) (a2 : a ≤ 1073741824) (b1 : b < 0) (b2 : -1073741824 ≤ b)
    (c0 : nearS (-(a * 10000)) (-b) = c) (c1 : -1073741824 ≤ c) (c2 : c ≤ 1073741824) :
    Calls Tryd.prog 48 #[.pointer (some p), .pointer (some q)] w fun e w' => e = .returned (.int .i64 c) ∧ ∃ k, w' = w.drewN k := by
  have hw : IntKind.i64.wrap (a * 10000) = a * 10000 := IntWalk.i64_in _ (by omega)
  have hw2 : IntKind.i64.wrap (-(a * 10000)) = -(a * 10000) := IntWalk.i64_in _ (by omega)
  have hw3 : IntKind.i64.wrap (-b) = -b := IntWalk.i64_in _ (by omega)
  have hdiv := tdiv_bounds (d := -b) (M := 4611686018427387904) (by omega : -4611686018427387904 ≤ -(a * 10000)) (by omega)
  have hn : ∀ W : World, Calls Tryd.prog 38 #[.int .i64 (-(a * 10000)), .int .i64 (-b)] W fun e w' => e = .returned (.int .i64 c) ∧ ∃ k, w' = W.drewN k := fun W => c0 ▸ near_any _ _ _ (by omega) (by omega) hdiv
  have HN := Lib.hid hn
  have b0 : ¬ b = 0 := by omega
  clear hn hdiv c0
  go_enter Tryd.func48, Tryd.ntmps48
  go_wp2_with fail
  go_quiet ((go_at_call 34; exact Calls.quiet_of_same (sized_s _ _ (by omega) (by omega))))
  clear hw
  go_wp2_with fail
  refine (HN.out _).mono ?_
  rintro e w' ⟨rfl, k, rfl⟩
  go_wp2_with fail
  refine (sized_ok _ _ c1 c2).mono ?_
  rintro e w' ⟨rfl, rfl⟩
  go_wp2_with fail
  go_ret
  exact ⟨rfl, _, rfl⟩

set_option maxHeartbeats 1600000 in
theorem div_work_neg_no (p q : Addr) (a b c : Int) (w : World) (hp : w.cell? p = some (.int .i64 a)) (hq : w.cell? q = some (.int .i64 b)) (a1 : -1073741824 ≤ a) (a2 : a ≤ 1073741824) (b1 : b < 0) (b2 : -1073741824 ≤ b)
    (c0 : nearS (-(a * 10000)) (-b) = c) (h : c < -1073741824 ∨ 1073741824 < c) :
    Calls Tryd.prog 48 #[.pointer (some p), .pointer (some q)] w fun e w' => e = gaveUp 2 ∧ ∃ k, w' = w.drewN k := by
  have hw : IntKind.i64.wrap (a * 10000) = a * 10000 := IntWalk.i64_in _ (by omega)
  have hw2 : IntKind.i64.wrap (-(a * 10000)) = -(a * 10000) := IntWalk.i64_in _ (by omega)
  have hw3 : IntKind.i64.wrap (-b) = -b := IntWalk.i64_in _ (by omega)
  have hdiv := tdiv_bounds (d := -b) (M := 4611686018427387904) (by omega : -4611686018427387904 ≤ -(a * 10000)) (by omega)
  have hn : ∀ W : World, Calls Tryd.prog 38 #[.int .i64 (-(a * 10000)), .int .i64 (-b)] W fun e w' => e = .returned (.int .i64 c) ∧ ∃ k, w' = W.drewN k := fun W => c0 ▸ near_any _ _ _ (by omega) (by omega) hdiv
  have HN := Lib.hid hn
  have H := Lib.hid h
  have b0 : ¬ b = 0 := by omega
  clear hn hdiv c0 h
  go_enter Tryd.func48, Tryd.ntmps48
  go_wp2_with fail
  go_quiet ((go_at_call 34; exact Calls.quiet_of_same (sized_s _ _ (by omega) (by omega))))
  clear hw
  go_wp2_with fail
  refine (HN.out _).mono ?_
  rintro e w' ⟨rfl, k, rfl⟩
  go_wp2_with fail
  refine (sized_no _ _ H.out).mono ?_
  rintro e w' ⟨rfl, rfl⟩
  exact ⟨rfl, rfl, _, rfl⟩

theorem div_work_a (p q : Addr) (a b : Int) (w : World) (hp : w.cell? p = some (.int .i64 a)) (hq : w.cell? q = some (.int .i64 b)) (h : a < -1073741824 ∨ 1073741824 < a) :
    Calls Tryd.prog 48 #[.pointer (some p), .pointer (some q)] w fun e w' => e = gaveUp 2 ∧ ∃ k, w' = w.drewN k := by
  have H := Lib.hid h
  clear h
  go_enter Tryd.func48, Tryd.ntmps48
  go_wp2_with fail
  go_region_dies
  all_goals
    refine (sized_no _ _ H.out).mono ?_
    rintro e w' ⟨rfl, rfl⟩
    exact ⟨rfl, rfl, 1, rfl⟩

set_option maxHeartbeats 4000000 in
theorem div_work_b (p q : Addr) (a b : Int) (w : World) (hp : w.cell? p = some (.int .i64 a)) (hq : w.cell? q = some (.int .i64 b)) (a1 : -1073741824 ≤ a) (a2 : a ≤ 1073741824) (h : b < -1073741824 ∨ 1073741824 < b) :
    Calls Tryd.prog 48 #[.pointer (some p), .pointer (some q)] w fun e w' => e = gaveUp 2 ∧ ∃ k, w' = w.drewN k := by
  have H := Lib.hid h
  clear h
  go_enter Tryd.func48, Tryd.ntmps48
  go_wp2_with fail
  go_region_dies
  all_goals
    refine (sized_ok _ _ a1 a2).mono ?_
    rintro e w' ⟨rfl, rfl⟩
    rename_i K hK
    refine hK _ _ ?_
    first
    | (((refine wpAny_ready (rs := [2, 4]) (by decide +kernel) (by simp) ?_; refine AllReady.cons rfl (fun K' hK' => ?_) (AllReady.cons rfl (fun K' hK' => ?_) AllReady.nil)) <;> go_simp); (refine hK' _ _ ?_; clear hK' K'); (refine wpAny_ready (rs := [4]) (by decide +kernel) (by simp) ?_; refine AllReady.cons rfl (fun K' hK' => ?_) AllReady.nil; go_simp); ((refine (sized_no _ _ H.out).mono ?_); rintro e w' ⟨rfl, rfl⟩; exact ⟨rfl, rfl, 1, rfl⟩); ((refine (sized_no _ _ H.out).mono ?_); rintro e w' ⟨rfl, rfl⟩; exact ⟨rfl, rfl, 1, rfl⟩))
    | (((refine wpAny_ready (rs := [2, 3]) (by decide +kernel) (by simp) ?_; refine AllReady.cons rfl (fun K' hK' => ?_) (AllReady.cons rfl (fun K' hK' => ?_) AllReady.nil)) <;> go_simp); (refine hK' _ _ ?_; clear hK' K'); (refine wpAny_ready (rs := [3]) (by decide +kernel) (by simp) ?_; refine AllReady.cons rfl (fun K' hK' => ?_) AllReady.nil; go_simp); (refine hK' _ _ ?_; clear hK' K'); (refine wpAny_ready (rs := [4]) (by decide +kernel) (by simp) ?_; refine AllReady.cons rfl (fun K' hK' => ?_) AllReady.nil; go_simp); ((refine (sized_no _ _ H.out).mono ?_); rintro e w' ⟨rfl, rfl⟩; exact ⟨rfl, rfl, 1, rfl⟩); (refine hK' _ _ ?_; clear hK' K'); ((refine wpAny_ready (rs := [2, 4]) (by decide +kernel) (by simp) ?_; refine AllReady.cons rfl (fun K' hK' => ?_) (AllReady.cons rfl (fun K' hK' => ?_) AllReady.nil)) <;> go_simp); (refine hK' _ _ ?_; clear hK' K'); (refine wpAny_ready (rs := [4]) (by decide +kernel) (by simp) ?_; refine AllReady.cons rfl (fun K' hK' => ?_) AllReady.nil; go_simp); ((refine (sized_no _ _ H.out).mono ?_); rintro e w' ⟨rfl, rfl⟩; exact ⟨rfl, rfl, 1, rfl⟩); ((refine (sized_no _ _ H.out).mono ?_); rintro e w' ⟨rfl, rfl⟩; exact ⟨rfl, rfl, 1, rfl⟩))
end Go.Proofs.YtmimeconkmfkfaaDoor
