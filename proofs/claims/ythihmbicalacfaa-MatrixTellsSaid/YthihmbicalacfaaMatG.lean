/-
  value: Int, Real, Units, Number; Clone of an object with no elements.
-/
import Derived.Test.YthihmbicalacfaaMatA
import Derived.Deep.AppendLies
namespace Go.Proofs.Ythihmbicalacfaa
open Go.RowKit Fix Mat

/-- An object with a kind and a number alone. -/
def oV (k n : Int) : Value := .agg #[.int .i64 k, .int .i64 n, .int .i64 0, .string ⟨#[]⟩, .slice none 0 0, .slice none 0 0]
/-- The kind and the number of a number of units as an object. -/
def kindU (n : Int) : Int := if n.tmod 10000 = 0 then 2 else 3
def numU (n : Int) : Int := if n.tmod 10000 = 0 then n.tdiv 10000 else n
/-- What Number answers: the units, and whether it is a number. -/
def isNum (k n : Int) : Bool := (decide (k = 2) && (decide (-107374 ≤ n) && decide (n ≤ 107374))) || (decide (k = 3) && inRange n)
def unitsOf (k n : Int) : Int := if isNum k n then (if k = 2 then n * 10000 else n) else 0

set_option maxRecDepth 100000 in
theorem vint_any (n : Int) (w : World) :
    Calls Try.prog 64 #[.int .i64 n] w fun e w' => e = .returned (oV 2 n) ∧ Below w.heap.size w w' := by
  unfold oV
  obtain ⟨N, hN⟩ : ∃ N, w.heap.size = N := ⟨_, rfl⟩
  have HB := Lib.hid ((Below.refl _ w).alloc (Nat.le_refl _) (.cells #[.int .i64 0, .int .i64 0, .int .i64 0, .string ⟨#[]⟩, .slice none 0 0, .slice none 0 0] 31))
  have HC := Lib.hid (Blk.new w 31 #[.int .i64 0, .int .i64 0, .int .i64 0, .string ⟨#[]⟩, .slice none 0 0, .slice none 0 0])
  rw [hN] at HB HC ⊢
  go_enter Try.func64, Try.ntmps64
  go_upto_region 1 with fail
  obtain ⟨w1, hw1⟩ : ∃ w1, w.alloc (.cells #[.int .i64 0, .int .i64 0, .int .i64 0, .string ⟨#[]⟩, .slice none 0 0, .slice none 0 0] 31) = w1 := ⟨_, rfl⟩
  rw [hw1] at HB HC ⊢
  obtain ⟨⟨c0, c1, c2, c3, c4, c5⟩, ⟨f0, f1, f2, f3, f4, f5⟩⟩ := six_cells HC.out
  clear hw1 hN HC
  go_wp2_with fail
  exact bodyPost_ret (v := .agg #[.int .i64 2, .int .i64 n, .int .i64 0, .string ⟨#[]⟩, .slice none 0 0, .slice none 0 0]) (by simp [results, Try.results64, go_sem, c0, c1, c2, c3, c4, c5]) rfl ⟨rfl, below_six HB.out (Nat.le_refl _) _ _ _ _ _ _⟩
set_option maxRecDepth 100000 in
theorem vreal_any (n : Int) (w : World) :
    Calls Try.prog 65 #[.int .i64 n] w fun e w' => e = .returned (oV 3 n) ∧ Below w.heap.size w w' := by
  unfold oV
  obtain ⟨N, hN⟩ : ∃ N, w.heap.size = N := ⟨_, rfl⟩
  have HB := Lib.hid ((Below.refl _ w).alloc (Nat.le_refl _) (.cells #[.int .i64 0, .int .i64 0, .int .i64 0, .string ⟨#[]⟩, .slice none 0 0, .slice none 0 0] 31))
  have HC := Lib.hid (Blk.new w 31 #[.int .i64 0, .int .i64 0, .int .i64 0, .string ⟨#[]⟩, .slice none 0 0, .slice none 0 0])
  rw [hN] at HB HC ⊢
  go_enter Try.func65, Try.ntmps65
  go_upto_region 1 with fail
  obtain ⟨w1, hw1⟩ : ∃ w1, w.alloc (.cells #[.int .i64 0, .int .i64 0, .int .i64 0, .string ⟨#[]⟩, .slice none 0 0, .slice none 0 0] 31) = w1 := ⟨_, rfl⟩
  rw [hw1] at HB HC ⊢
  obtain ⟨⟨c0, c1, c2, c3, c4, c5⟩, ⟨f0, f1, f2, f3, f4, f5⟩⟩ := six_cells HC.out
  clear hw1 hN HC
  go_wp2_with fail
  exact bodyPost_ret (v := .agg #[.int .i64 3, .int .i64 n, .int .i64 0, .string ⟨#[]⟩, .slice none 0 0, .slice none 0 0]) (by simp [results, Try.results65, go_sem, c0, c1, c2, c3, c4, c5]) rfl ⟨rfl, below_six HB.out (Nat.le_refl _) _ _ _ _ _ _⟩

set_option maxRecDepth 100000 in
set_option maxHeartbeats 1000000 in
theorem units_any (n : Int) (w : World) (hn : inRange n = true) :
    Calls Try.prog 52 #[.int .i64 n] w fun e w' => e = .returned (oV (kindU n) (numU n)) ∧ Below w.heap.size w w' := by
  obtain ⟨N, hN⟩ : ∃ N, w.heap.size = N := ⟨_, rfl⟩
  have HB := Lib.hid ((Below.refl _ w).alloc (Nat.le_refl _) (.cells #[.int .i64 0, .int .i64 0, .int .i64 0, .string ⟨#[]⟩, .slice none 0 0, .slice none 0 0] 31))
  have HC := Lib.hid (Blk.new w 31 #[.int .i64 0, .int .i64 0, .int .i64 0, .string ⟨#[]⟩, .slice none 0 0, .slice none 0 0])
  have HS := Lib.hid (show (w.alloc (.cells #[.int .i64 0, .int .i64 0, .int .i64 0, .string ⟨#[]⟩, .slice none 0 0, .slice none 0 0] 31)).heap.size = N + 1 by rw [World.size_alloc, hN])
  have hr := inRange_yes hn
  have hq1 := Int.mul_tdiv_add_tmod n 10000
  have hq2 := Int.tmod_lt_of_pos n (show (0 : Int) < 10000 by decide)
  have hq3 := Int.lt_tmod_of_pos n (show (0 : Int) < 10000 by decide)
  have hw1 : IntKind.i64.wrap (n.tdiv 10000) = n.tdiv 10000 := IntWalk.i64_in _ (by omega)
  rw [hN] at HB HC ⊢
  by_cases h : n.tmod 10000 = 0
  · have hk : kindU n = 2 := by unfold kindU; rw [if_pos h]
    have hm : numU n = n.tdiv 10000 := by unfold numU; rw [if_pos h]
    rw [hk, hm]
    obtain ⟨q, hq⟩ : ∃ q, n.tdiv 10000 = q := ⟨_, rfl⟩
    rw [hq] at hw1 ⊢
    obtain ⟨t, ht⟩ : ∃ t, n.tmod 10000 = t := ⟨_, rfl⟩
    have h0 : n.tmod 10000 = 0 := h
    clear h hn hr hk hm ht hq1 hq2 hq3
    go_enter Try.func52, Try.ntmps52
    go_upto_region 1 with fail
    obtain ⟨w1, hw1⟩ : ∃ w1, w.alloc (.cells #[.int .i64 0, .int .i64 0, .int .i64 0, .string ⟨#[]⟩, .slice none 0 0, .slice none 0 0] 31) = w1 := ⟨_, rfl⟩
    rw [hw1] at HB HC HS ⊢
    clear hw1 hN
    go_wp2_with fail
    refine (vint_any q w1).mono ?_
    rintro e w2 ⟨rfl, hb⟩
    have HB2 := Lib.hid (HB.out.trans (hb.mono (by rw [HS.out]; omega)))
    obtain ⟨⟨c0, c1, c2, c3, c4, c5⟩, ⟨f0, f1, f2, f3, f4, f5⟩⟩ := six_cells (HC.out.below hb (by rw [HS.out]; omega))
    clear hb HB HC
    unfold oV
    go_wp2_with fail
    exact bodyPost_ret (v := .agg #[.int .i64 2, .int .i64 q, .int .i64 0, .string ⟨#[]⟩, .slice none 0 0, .slice none 0 0]) (by simp [results, Try.results52, go_sem, c0, c1, c2, c3, c4, c5]) rfl ⟨rfl, below_six HB2.out (Nat.le_refl _) _ _ _ _ _ _⟩
  · have hk : kindU n = 3 := by unfold kindU; rw [if_neg h]
    have hm : numU n = n := by unfold numU; rw [if_neg h]
    rw [hk, hm]
    clear hn hk hm hw1
    go_enter Try.func52, Try.ntmps52
    go_upto_region 1 with fail
    obtain ⟨w1, hw1⟩ : ∃ w1, w.alloc (.cells #[.int .i64 0, .int .i64 0, .int .i64 0, .string ⟨#[]⟩, .slice none 0 0, .slice none 0 0] 31) = w1 := ⟨_, rfl⟩
    rw [hw1] at HB HC HS ⊢
    clear hw1 hN
    have hw2 : IntKind.i64.wrap (n.tmod 10000) = n.tmod 10000 := IntWalk.i64_in _ (by omega)
    clear hr hq1 hq2 hq3
    go_wp2_with fail
    refine (vreal_any n w1).mono ?_
    rintro e w2 ⟨rfl, hb⟩
    have HB2 := Lib.hid (HB.out.trans (hb.mono (by rw [HS.out]; omega)))
    obtain ⟨⟨c0, c1, c2, c3, c4, c5⟩, ⟨f0, f1, f2, f3, f4, f5⟩⟩ := six_cells (HC.out.below hb (by rw [HS.out]; omega))
    clear hb HB HC hw2 h
    unfold oV
    go_wp2_with fail
    exact bodyPost_ret (v := .agg #[.int .i64 3, .int .i64 n, .int .i64 0, .string ⟨#[]⟩, .slice none 0 0, .slice none 0 0]) (by simp [results, Try.results52, go_sem, c0, c1, c2, c3, c4, c5]) rfl ⟨rfl, below_six HB2.out (Nat.le_refl _) _ _ _ _ _ _⟩

set_option maxRecDepth 100000 in
set_option maxHeartbeats 1000000 in
theorem number_any (k n g : Int) (s : ByteArray) (v5 v6 : Value) (w : World) :
    Calls Try.prog 48 #[.agg #[.int .i64 k, .int .i64 n, .int .i64 g, .string s, v5, v6]] w fun e w' => e = .returned (.tuple #[.int .i64 (unitsOf k n), .bool (isNum k n)]) ∧ Below w.heap.size w w' := by
  have HB := Lib.hid ((Below.refl _ w).alloc (Nat.le_refl _) (.cells #[.int .i64 k, .int .i64 n, .int .i64 g, .string s, v5, v6] 31))
  have HC := Lib.hid (Blk.new w 31 #[.int .i64 k, .int .i64 n, .int .i64 g, .string s, v5, v6])
  obtain ⟨N, hN⟩ : ∃ N, w.heap.size = N := ⟨_, rfl⟩
  rw [hN] at HB HC ⊢
  obtain ⟨w1, hw1⟩ : ∃ w1, w.alloc (.cells #[.int .i64 k, .int .i64 n, .int .i64 g, .string s, v5, v6] 31) = w1 := ⟨_, rfl⟩
  rw [hw1] at HB HC
  obtain ⟨⟨c0, c1, c2, c3, c4, c5⟩, _⟩ := six_cells HC.out
  have hq : IntKind.i64.wrap ((1073741824 : Int).tdiv 10000) = 107374 := by decide +kernel
  by_cases h2 : k = 2
  · subst h2
    by_cases hr : -107374 ≤ n ∧ n ≤ 107374
    · have e1 : isNum 2 n = true := by unfold isNum; simp [hr.1, hr.2]
      have e2 : unitsOf 2 n = n * 10000 := by unfold unitsOf; rw [e1]; rfl
      rw [e1, e2]
      have r1 : ¬ n < -107374 := by omega
      have r2 : ¬ 107374 < n := by omega
      have hw : IntKind.i64.wrap (n * 10000) = n * 10000 := IntWalk.i64_in _ (by omega)
      clear hr e1 e2
      go_enter Try.func48, Try.ntmps48
      go_wp2_with fail
      go_ret2
      exact ⟨rfl, HB.out⟩
    · have e1 : isNum 2 n = false := by unfold isNum; simp; omega
      have e2 : unitsOf 2 n = 0 := by unfold unitsOf; rw [e1]; rfl
      rw [e1, e2]
      rcases (show n < -107374 ∨ 107374 < n by omega) with r1 | r1
      · clear hr e1 e2
        go_enter Try.func48, Try.ntmps48
        go_wp2_with fail
        go_ret2
        exact ⟨rfl, HB.out⟩
      · have r0 : ¬ n < -107374 := by omega
        clear hr e1 e2
        go_enter Try.func48, Try.ntmps48
        go_wp2_with fail
        go_ret2
        exact ⟨rfl, HB.out⟩
  · by_cases h3 : k = 3
    · subst h3
      by_cases hr : inRange n = true
      · have e1 : isNum 3 n = true := by unfold isNum; simp [hr]
        have e2 : unitsOf 3 n = n := by unfold unitsOf; rw [e1]; rfl
        rw [e1, e2]
        have hr2 := inRange_yes hr
        have r1 : ¬ n < -1073741824 := by omega
        have r2 : ¬ 1073741824 < n := by omega
        clear hr hr2 e1 e2 hq
        go_enter Try.func48, Try.ntmps48
        go_wp2_with fail
        go_ret2
        exact ⟨rfl, HB.out⟩
      · have e1 : isNum 3 n = false := by unfold isNum; simp [hr]
        have e2 : unitsOf 3 n = 0 := by unfold unitsOf; rw [e1]; rfl
        rw [e1, e2]
        rcases inRange_no hr with r1 | r1
        · clear hr e1 e2 hq
          go_enter Try.func48, Try.ntmps48
          go_wp2_with fail
          go_ret2
          exact ⟨rfl, HB.out⟩
        · have r0 : ¬ n < -1073741824 := by omega
          clear hr e1 e2 hq
          go_enter Try.func48, Try.ntmps48
          go_wp2_with fail
          go_ret2
          exact ⟨rfl, HB.out⟩
    · have e1 : isNum k n = false := by unfold isNum; simp [h2, h3]
      have e2 : unitsOf k n = 0 := by unfold unitsOf; rw [e1]; rfl
      rw [e1, e2]
      clear e1 e2 hq
      go_enter Try.func48, Try.ntmps48
      go_wp2_with fail
      go_ret2
      exact ⟨rfl, HB.out⟩

/-! ### Clone, of a leaf. -/
theorem sclone_nil (w : World) : Calls Try.prog 76 #[.slice none 0 0] w fun e w' => e = .returned (.slice none 0 0) ∧ w = w' := by
  have he : ∀ w : World, (binOp .eql 28 (.slice none 0 0) (.slice none 0 0)).run Try.prog w = .ok (.bool true) w := fun _ => rfl
  go_enter Try.func76, Try.ntmps76
  go_wp2_with fail
  go_ret
  exact ⟨rfl, rfl⟩
theorem oclone_nil (w : World) : Calls Try.prog 77 #[.slice none 0 0] w fun e w' => e = .returned (.slice none 0 0) ∧ w = w' := by
  have he : ∀ w : World, (binOp .eql 29 (.slice none 0 0) (.slice none 0 0)).run Try.prog w = .ok (.bool true) w := fun _ => rfl
  go_enter Try.func77, Try.ntmps77
  go_wp2_with fail
  go_ret
  exact ⟨rfl, rfl⟩

set_option maxRecDepth 100000 in
set_option maxHeartbeats 1000000 in
theorem same_any (k n : Int) (ka : Option Addr) (kl kc : Nat) (w : World) :
    Calls Try.prog 72 #[.agg #[.int .i64 k, .int .i64 n, .int .i64 0, .string ⟨#[]⟩, .slice none 0 0, (.slice ka kl kc)]] w fun e w' => e = .returned (.agg #[.int .i64 k, .int .i64 n, .int .i64 0, .string ⟨#[]⟩, .slice none 0 0, (.slice ka kl kc)]) ∧ Below w.heap.size w w' := by
  obtain ⟨N, hN⟩ : ∃ N, w.heap.size = N := ⟨_, rfl⟩
  obtain ⟨V, hV⟩ : ∃ V, (w.alloc (.cells #[.int .i64 k, .int .i64 n, .int .i64 0, .string ⟨#[]⟩, .slice none 0 0, (.slice ka kl kc)] 31)).alloc (.cells #[.int .i64 0, .int .i64 0, .int .i64 0, .string ⟨#[]⟩, .slice none 0 0, .slice none 0 0] 31) = V := ⟨_, rfl⟩
  have bA : Blk V N 31 #[.int .i64 k, .int .i64 n, .int .i64 0, .string ⟨#[]⟩, .slice none 0 0, (.slice ka kl kc)] := by
    rw [← hV, ← hN]
    exact (Blk.new w _ _).alloc _
  have bB : Blk V (N + 1) 31 #[.int .i64 0, .int .i64 0, .int .i64 0, .string ⟨#[]⟩, .slice none 0 0, .slice none 0 0] := by
    rw [← hV]
    have := Blk.new (w.alloc (.cells #[.int .i64 k, .int .i64 n, .int .i64 0, .string ⟨#[]⟩, .slice none 0 0, (.slice ka kl kc)] 31)) 31 #[.int .i64 0, .int .i64 0, .int .i64 0, .string ⟨#[]⟩, .slice none 0 0, .slice none 0 0]
    rw [World.size_alloc, hN] at this
    exact this
  have HB := Lib.hid (show Below N w V by rw [← hV, ← hN]; exact ((Below.refl _ w).alloc (Nat.le_refl _) _).alloc (by simp) _)
  obtain ⟨⟨a0, a1, a2, a3, a4, a5⟩, _⟩ := six_cells bA
  obtain ⟨⟨c0, c1, c2, c3, c4, c5⟩, ⟨f0, f1, f2, f3, f4, f5⟩⟩ := six_cells bB
  rw [hN]
  go_enter Try.func72, Try.ntmps72
  go_upto_region 1 with fail
  clear bA bB hV hN
  go_wp2_with fail
  exact bodyPost_ret (v := .agg #[.int .i64 k, .int .i64 n, .int .i64 0, .string ⟨#[]⟩, .slice none 0 0, (.slice ka kl kc)]) (by simp [results, Try.results72, go_sem, c0, c1, c2, c3, c4, c5]) rfl ⟨rfl, below_six HB.out (by omega) _ _ _ _ _ _⟩
end Go.Proofs.Ythihmbicalacfaa
