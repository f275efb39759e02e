/-
  The walk of num; and what keeps a writer while new blocks are made.
-/
import Derived.Test.YtcgejhlhbokpiaaBitBs
namespace Go.Proofs.Ytcgejhlhbokpiaa
open Go.RowKit Bt

theorem grown_of_below {w w' : World} (h : Below w.heap.size w w') (row : Option Nat) : w.grownBy w' row := ⟨h.os, h.tape, h.output, h.size, fun k hk _ => h.block k hk⟩

theorem abs_of {q : Int} {m : Nat} (h : m = q.natAbs) : (q < 0 → -q = (m : Int)) ∧ (¬ q < 0 → q = (m : Int)) := by omega
theorem num_n (n : Int) : ∃ q : Int, n.tmod 25 = q ∧ IntKind.i64.wrap (n.tmod 25) = q ∧ numN n = q.natAbs := by
  have b1 := Int.tmod_lt_of_pos n (show (0 : Int) < 25 by decide)
  have b2 := Int.lt_tmod_of_pos n (show (0 : Int) < 25 by decide)
  exact ⟨_, rfl, IntWalk.i64_in _ ⟨by omega, by omega⟩, rfl⟩
theorem pow_wrap {m : Nat} (h : m ≤ 24) : wrap64 ((2 : Int) ^ m) = 2 ^ m ∧ IntKind.i64.wrap ((2 : Int) ^ m) = 2 ^ m := by
  have h2p := two_pow_le h
  generalize (2 : Int) ^ m = X at *
  exact ⟨IntWalk.wrap64_in _ ⟨by omega, by omega⟩, IntWalk.i64_in _ ⟨by omega, by omega⟩⟩
theorem num_v (n v : Int) (X : Int) (hX : (2 : Int) ^ numN n = X) : ∃ r : Int, IntKind.i64.wrap (v.tmod X) = r ∧ v.tmod X = r ∧ numV n v = r.natAbs ∧ -X < r ∧ r < X ∧ 0 < X ∧ X ≤ 16777216 := by
  have hN : numN n ≤ 24 := by have := numN_lt n; omega
  have h2p := two_pow_le hN
  have e : numV n v = (v.tmod X).natAbs := by rw [← hX]; rfl
  rw [hX] at h2p
  clear hX hN
  have hX0 : 0 < X := by have := h2p.2; omega
  have hX1 : X ≤ 16777216 := h2p.1
  have c1 := Int.tmod_lt_of_pos v hX0
  have c2 := Int.lt_tmod_of_pos v hX0
  clear h2p
  generalize v.tmod X = r at *
  exact ⟨r, IntWalk.i64_in _ ⟨by omega, by omega⟩, rfl, e, c2, c1, hX0, hX1⟩

set_option maxHeartbeats 400000 in
theorem num_walk (d n v : Int) (s : ByteArray) (w : World) (q r X : Int) (m V : Nat) (hq : n.tmod 25 = q) (hi : IntKind.i64.wrap (n.tmod 25) = q) (hm : m ≤ 24) (h1 : (q < 0 → -q = (m : Int)) ∧ (¬ q < 0 → q = (m : Int)))
    (hw : wrap64 ((2 : Int) ^ m) = X) (hwi : IntKind.i64.wrap ((2 : Int) ^ m) = X) (hr : v.tmod X = r) (hri : IntKind.i64.wrap (v.tmod X) = r) (h2 : (r < 0 → -r = (V : Int)) ∧ (¬ r < 0 → r = (V : Int))) (x0 : 0 < X) (x1 : X ≤ 16777216) (r0 : -X < r) (r1 : r < X) :
    Calls Try.prog 37 #[.agg #[.int .i64 d, .int .i64 n, .int .i64 v, .string s]] w fun e w' => e = .returned (.tuple #[.int .i64 (m : Int), .int .i64 (V : Int)]) ∧ Below w.heap.size w w' := by
  have x2 : (X == 0) = false := by simp; omega
  by_cases s1 : q < 0
  · have e1 := h1.1 s1
    by_cases s2 : r < 0
    · have e2 := h2.1 s2
      clear h1 h2
      go_enter Try.func37, Try.ntmps37
      go_wp2_with fail
      go_quiet (fail)
      go_wp2
      go_ret2
      exact ⟨rfl, below_drewN ((Below.refl _ _).alloc (Nat.le_refl _) _) _⟩
    · have e2 := h2.2 s2
      subst e2
      clear h1 h2
      go_enter Try.func37, Try.ntmps37
      go_wp2_with fail
      go_quiet (fail)
      go_wp2
      go_ret2
      exact ⟨rfl, below_drewN ((Below.refl _ _).alloc (Nat.le_refl _) _) _⟩
  · have e1 := h1.2 s1
    subst e1
    by_cases s2 : r < 0
    · have e2 := h2.1 s2
      clear h1 h2
      go_enter Try.func37, Try.ntmps37
      go_wp2_with fail
      go_quiet (fail)
      go_wp2
      go_ret2
      exact ⟨rfl, below_drewN ((Below.refl _ _).alloc (Nat.le_refl _) _) _⟩
    · have e2 := h2.2 s2
      subst e2
      clear h1 h2
      go_enter Try.func37, Try.ntmps37
      go_wp2_with fail
      go_quiet (fail)
      go_wp2
      go_ret2
      exact ⟨rfl, below_drewN ((Below.refl _ _).alloc (Nat.le_refl _) _) _⟩

theorem num_any (d n v : Int) (s : ByteArray) (w : World) :
    Calls Try.prog 37 #[.agg #[.int .i64 d, .int .i64 n, .int .i64 v, .string s]] w fun e w' => e = .returned (.tuple #[.int .i64 (numN n : Int), .int .i64 (numV n v : Int)]) ∧ Below w.heap.size w w' := by
  obtain ⟨q, h1, h2, h3⟩ := num_n n
  have hN : numN n ≤ 24 := Nat.le_of_lt_succ (numN_lt n)
  obtain ⟨p1, p2⟩ := pow_wrap hN
  obtain ⟨r, k1, k2, k3, k4, k5, k6, k7⟩ := num_v n v _ rfl
  exact num_walk d n v s w q r _ _ _ h1 h2 hN (abs_of h3) p1 p2 k2 k1 (abs_of k3) k6 k7 k4 k5
theorem num_c (d n v : Int) (s : ByteArray) (w : World) (nb vb : Nat) (hn : numN n = nb) (hv : numV n v = vb) :
    Calls Try.prog 37 #[.agg #[.int .i64 d, .int .i64 n, .int .i64 v, .string s]] w fun e w' => e = .returned (.tuple #[.int .i64 (nb : Int), .int .i64 (vb : Int)]) ∧ Below w.heap.size w w' := by
  subst hn hv
  exact num_any d n v s w
end Go.Proofs.Ytcgejhlhbokpiaa
