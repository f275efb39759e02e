/-
  value.Units and the document's Num of any number; the document's Number.
-/
import Derived.Test.YthihmbicalacfaaMatRe
import Derived.Test.YthihmbicalacfaaMatJ
namespace Go.Proofs.Ythihmbicalacfaa
open Go.RowKit Fix Mat

/-- The number of a number of units as an object, in 64 bits. -/
def numW (n : Int) : Int := if n.tmod 10000 = 0 then IntKind.i64.wrap (n.tdiv 10000) else n
theorem tmod_wrap (n : Int) : IntKind.i64.wrap (n.tmod 10000) = n.tmod 10000 := by
  have hq2 := Int.tmod_lt_of_pos n (show (0 : Int) < 10000 by decide)
  have hq3 := Int.lt_tmod_of_pos n (show (0 : Int) < 10000 by decide)
  exact IntWalk.i64_in _ (by omega)

set_option maxRecDepth 100000 in
set_option maxHeartbeats 1000000 in
theorem units_gen (n : Int) (w : World) :
    Calls Try.prog 52 #[.int .i64 n] w fun e w' => e = .returned (oV (kindU n) (numW n)) ∧ Below w.heap.size w w' := by
  obtain ⟨N, hN⟩ : ∃ N, w.heap.size = N := ⟨_, rfl⟩
  have HB := Lib.hid ((Below.refl _ w).alloc (Nat.le_refl _) (.cells #[.int .i64 0, .int .i64 0, .int .i64 0, .string ⟨#[]⟩, .slice none 0 0, .slice none 0 0] 31))
  have HC := Lib.hid (Blk.new w 31 #[.int .i64 0, .int .i64 0, .int .i64 0, .string ⟨#[]⟩, .slice none 0 0, .slice none 0 0])
  have HS := Lib.hid (show (w.alloc (.cells #[.int .i64 0, .int .i64 0, .int .i64 0, .string ⟨#[]⟩, .slice none 0 0, .slice none 0 0] 31)).heap.size = N + 1 by rw [World.size_alloc, hN])
  have hw2 := tmod_wrap n
  rw [hN] at HB HC ⊢
  by_cases h : n.tmod 10000 = 0
  · have hk : kindU n = 2 := by unfold kindU; rw [if_pos h]
    have hm : numW n = IntKind.i64.wrap (n.tdiv 10000) := by unfold numW; rw [if_pos h]
    rw [hk, hm]
    obtain ⟨p, hp⟩ : ∃ p, n.tdiv 10000 = p := ⟨_, rfl⟩
    obtain ⟨q, hq⟩ : ∃ q, IntKind.i64.wrap p = q := ⟨_, rfl⟩
    rw [hp, hq]
    have h0 : n.tmod 10000 = 0 := h
    clear h hk hm hw2
    go_enter Try.func52, Try.ntmps52
    go_upto_region 1 with fail
    obtain ⟨w1, hw1⟩ : ∃ w1, w.alloc (.cells #[.int .i64 0, .int .i64 0, .int .i64 0, .string ⟨#[]⟩, .slice none 0 0, .slice none 0 0] 31) = w1 := ⟨_, rfl⟩
    rw [hw1] at HB HC HS ⊢
    clear hw1 hN
    go_wp2_with fail
    refine (vint_any q w1).mono ?_
    rintro e w2 ⟨rfl, hb⟩
    have HB2 := Lib.hid (HB.out.trans (hb.mono (by rw [HS.out]; omega)))
    obtain ⟨⟨c0, c1, c2, c3, c4, c5⟩, ⟨f0, f1, f2, f3, f4, f5⟩⟩ := six_cells (HC.out.below hb (by rw [HS.out]; omega))
    clear hb HB HC
    unfold oV
    go_wp2_with fail
    exact bodyPost_ret (v := .agg #[.int .i64 2, .int .i64 q, .int .i64 0, .string ⟨#[]⟩, .slice none 0 0, .slice none 0 0]) (by simp [results, Try.results52, go_sem, c0, c1, c2, c3, c4, c5]) rfl ⟨rfl, below_six HB2.out (Nat.le_refl _) _ _ _ _ _ _⟩
  · have hk : kindU n = 3 := by unfold kindU; rw [if_neg h]
    have hm : numW n = n := by unfold numW; rw [if_neg h]
    rw [hk, hm]
    clear hk hm
    go_enter Try.func52, Try.ntmps52
    go_upto_region 1 with fail
    obtain ⟨w1, hw1⟩ : ∃ w1, w.alloc (.cells #[.int .i64 0, .int .i64 0, .int .i64 0, .string ⟨#[]⟩, .slice none 0 0, .slice none 0 0] 31) = w1 := ⟨_, rfl⟩
    rw [hw1] at HB HC HS ⊢
    clear hw1 hN
    go_wp2_with fail
    refine (vreal_any n w1).mono ?_
    rintro e w2 ⟨rfl, hb⟩
    have HB2 := Lib.hid (HB.out.trans (hb.mono (by rw [HS.out]; omega)))
    obtain ⟨⟨c0, c1, c2, c3, c4, c5⟩, ⟨f0, f1, f2, f3, f4, f5⟩⟩ := six_cells (HC.out.below hb (by rw [HS.out]; omega))
    clear hb HB HC
    unfold oV
    go_wp2_with fail
    exact bodyPost_ret (v := .agg #[.int .i64 3, .int .i64 n, .int .i64 0, .string ⟨#[]⟩, .slice none 0 0, .slice none 0 0]) (by simp [results, Try.results52, go_sem, c0, c1, c2, c3, c4, c5]) rfl ⟨rfl, below_six HB2.out (Nat.le_refl _) _ _ _ _ _ _⟩
set_option maxRecDepth 100000 in
set_option maxHeartbeats 1000000 in
theorem num42 (n : Int) (w : World) :
    Calls Try.prog 54 #[.int .i64 n] w fun e w' => e = .returned (oV (kindU n) (numW n)) ∧ Below w.heap.size w w' := by
  obtain ⟨N, hN⟩ : ∃ N, w.heap.size = N := ⟨_, rfl⟩
  have HB := Lib.hid ((Below.refl _ w).alloc (Nat.le_refl _) (.cells #[.int .i64 0, .int .i64 0, .int .i64 0, .string ⟨#[]⟩, .slice none 0 0, .slice none 0 0] 31))
  have HC := Lib.hid (Blk.new w 31 #[.int .i64 0, .int .i64 0, .int .i64 0, .string ⟨#[]⟩, .slice none 0 0, .slice none 0 0])
  have HS := Lib.hid (show (w.alloc (.cells #[.int .i64 0, .int .i64 0, .int .i64 0, .string ⟨#[]⟩, .slice none 0 0, .slice none 0 0] 31)).heap.size = N + 1 by rw [World.size_alloc, hN])
  have hw2 := tmod_wrap n
  rw [hN] at HB HC ⊢
  by_cases h : n.tmod 10000 = 0
  · have hk : kindU n = 2 := by unfold kindU; rw [if_pos h]
    have hm : numW n = IntKind.i64.wrap (n.tdiv 10000) := by unfold numW; rw [if_pos h]
    rw [hk, hm]
    obtain ⟨p, hp⟩ : ∃ p, n.tdiv 10000 = p := ⟨_, rfl⟩
    obtain ⟨q, hq⟩ : ∃ q, IntKind.i64.wrap p = q := ⟨_, rfl⟩
    rw [hp, hq]
    have h0 : n.tmod 10000 = 0 := h
    clear h hk hm hw2
    go_enter Try.func54, Try.ntmps54
    go_upto_region 1 with fail
    obtain ⟨w1, hw1⟩ : ∃ w1, w.alloc (.cells #[.int .i64 0, .int .i64 0, .int .i64 0, .string ⟨#[]⟩, .slice none 0 0, .slice none 0 0] 31) = w1 := ⟨_, rfl⟩
    rw [hw1] at HB HC HS ⊢
    clear hw1 hN
    obtain ⟨⟨c0, c1, c2, c3, c4, c5⟩, ⟨f0, f1, f2, f3, f4, f5⟩⟩ := six_cells HC.out
    clear HC
    go_wp2_with fail
    exact bodyPost_ret (v := .agg #[.int .i64 2, .int .i64 q, .int .i64 0, .string ⟨#[]⟩, .slice none 0 0, .slice none 0 0]) (by simp [results, Try.results54, go_sem, c0, c1, c2, c3, c4, c5]) rfl ⟨rfl, below_six HB.out (Nat.le_refl _) _ _ _ _ _ _⟩
  · have hk : kindU n = 3 := by unfold kindU; rw [if_neg h]
    have hm : numW n = n := by unfold numW; rw [if_neg h]
    rw [hk, hm]
    clear hk hm
    go_enter Try.func54, Try.ntmps54
    go_upto_region 1 with fail
    obtain ⟨w1, hw1⟩ : ∃ w1, w.alloc (.cells #[.int .i64 0, .int .i64 0, .int .i64 0, .string ⟨#[]⟩, .slice none 0 0, .slice none 0 0] 31) = w1 := ⟨_, rfl⟩
    rw [hw1] at HB HC HS ⊢
    clear hw1 hN
    obtain ⟨⟨c0, c1, c2, c3, c4, c5⟩, ⟨f0, f1, f2, f3, f4, f5⟩⟩ := six_cells HC.out
    clear HC
    go_wp2_with fail
    exact bodyPost_ret (v := .agg #[.int .i64 3, .int .i64 n, .int .i64 0, .string ⟨#[]⟩, .slice none 0 0, .slice none 0 0]) (by simp [results, Try.results54, go_sem, c0, c1, c2, c3, c4, c5]) rfl ⟨rfl, below_six HB.out (Nat.le_refl _) _ _ _ _ _ _⟩

set_option maxRecDepth 100000 in
set_option maxHeartbeats 1000000 in
theorem number05 (k n g : Int) (s : ByteArray) (v5 v6 : Value) (w : World) :
    Calls Try.prog 49 #[.agg #[.int .i64 k, .int .i64 n, .int .i64 g, .string s, v5, v6]] w fun e w' => e = .returned (.tuple #[.int .i64 (unitsOf k n), .bool (isNum k n)]) ∧ Below w.heap.size w w' := by
  have HB := Lib.hid ((Below.refl _ w).alloc (Nat.le_refl _) (.cells #[.int .i64 k, .int .i64 n, .int .i64 g, .string s, v5, v6] 31))
  have HC := Lib.hid (Blk.new w 31 #[.int .i64 k, .int .i64 n, .int .i64 g, .string s, v5, v6])
  obtain ⟨N, hN⟩ : ∃ N, w.heap.size = N := ⟨_, rfl⟩
  rw [hN] at HB HC ⊢
  obtain ⟨w1, hw1⟩ : ∃ w1, w.alloc (.cells #[.int .i64 k, .int .i64 n, .int .i64 g, .string s, v5, v6] 31) = w1 := ⟨_, rfl⟩
  rw [hw1] at HB HC
  obtain ⟨⟨c0, c1, c2, c3, c4, c5⟩, _⟩ := six_cells HC.out
  by_cases h2 : k = 2
  · subst h2
    by_cases hr : -107374 ≤ n ∧ n ≤ 107374
    · have e1 : isNum 2 n = true := by unfold isNum; simp [hr.1, hr.2]
      have e2 : unitsOf 2 n = 10000 * n := by unfold unitsOf; rw [e1]; show n * 10000 = _; omega
      rw [e1, e2]
      have r1 : -107374 ≤ n := hr.1
      have r2 : n ≤ 107374 := hr.2
      have hw : IntKind.i64.wrap (10000 * n) = 10000 * n := IntWalk.i64_in _ (by omega)
      clear hr e1 e2
      go_enter Try.func49, Try.ntmps49
      go_wp2_with fail
      go_ret2
      exact ⟨rfl, HB.out⟩
    · have e1 : isNum 2 n = false := by unfold isNum; simp; omega
      have e2 : unitsOf 2 n = 0 := by unfold unitsOf; rw [e1]; rfl
      rw [e1, e2]
      by_cases r1 : -107374 ≤ n
      · have r2 : ¬ n ≤ 107374 := fun h => hr ⟨r1, h⟩
        clear hr e1 e2
        go_enter Try.func49, Try.ntmps49
        go_wp2_with fail
        go_ret2
        exact ⟨rfl, HB.out⟩
      · clear hr e1 e2
        go_enter Try.func49, Try.ntmps49
        go_wp2_with fail
        go_ret2
        exact ⟨rfl, HB.out⟩
  · by_cases h3 : k = 3
    · subst h3
      by_cases hr : inRange n = true
      · have e1 : isNum 3 n = true := by unfold isNum; simp [hr]
        have e2 : unitsOf 3 n = n := by unfold unitsOf; rw [e1]; rfl
        rw [e1, e2]
        have hr2 := inRange_yes hr
        have r1 : -1073741824 ≤ n := hr2.1
        have r2 : n ≤ 1073741824 := hr2.2
        clear hr hr2 e1 e2
        go_enter Try.func49, Try.ntmps49
        go_wp2_with fail
        go_ret2
        exact ⟨rfl, HB.out⟩
      · have e1 : isNum 3 n = false := by unfold isNum; simp [hr]
        have e2 : unitsOf 3 n = 0 := by unfold unitsOf; rw [e1]; rfl
        rw [e1, e2]
        rcases inRange_no hr with r0 | r0
        · have r1 : ¬ -1073741824 ≤ n := by omega
          clear hr e1 e2 r0
          go_enter Try.func49, Try.ntmps49
          go_wp2_with fail
          go_ret2
          exact ⟨rfl, HB.out⟩
        · have r1 : -1073741824 ≤ n := by omega
          have r2 : ¬ n ≤ 1073741824 := by omega
          clear hr e1 e2 r0
          go_enter Try.func49, Try.ntmps49
          go_wp2_with fail
          go_ret2
          exact ⟨rfl, HB.out⟩
    · have e1 : isNum k n = false := by unfold isNum; simp [h2, h3]
      have e2 : unitsOf k n = 0 := by unfold unitsOf; rw [e1]; rfl
      rw [e1, e2]
      clear e1 e2
      go_enter Try.func49, Try.ntmps49
      go_wp2_with fail
      go_ret2
      exact ⟨rfl, HB.out⟩
end Go.Proofs.Ythihmbicalacfaa
