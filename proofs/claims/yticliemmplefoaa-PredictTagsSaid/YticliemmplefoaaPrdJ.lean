/-
  The library's Chunk over bytes, whose rounds may panic.
-/
import Derived.Test.YticliemmplefoaaRgPan
import Derived.Test.YticliemmplefoaaPrdI
import Derived.WalkKit
import Derived.OwnWalkIn
import Derived.TacticsInMore
import Derived.LoopNIn
import Derived.LoopIn
import Derived.IntWalk
import Derived.Shelf.RegionOpen
import Derived.Sort.QuietIn
namespace Go.Proofs.Yticliemmplefoaa
open Go.RowKit Oct Prd
attribute [local go_sem] Oper.semAt_some

theorem chunk_in (n : Nat) (sv : Value) (q : Nat) (w : World) (hq : 1 ≤ q) (hv : ∃ A N C, sv = .slice A N C) :
    CallsIn Fence.wide n Try.prog 26 #[sv, .int .i64 (q : Int)] w fun e w' => e = .returned (.func (.func 36) #[] #[.pointer (some ⟨w.heap.size, 0, none⟩), .pointer (some ⟨w.heap.size + 1, 0, none⟩)]) ∧ w' = (w.alloc (.cells #[sv] 42)).alloc (.cells #[.int .i64 (q : Int)] 3) := by
  obtain ⟨A, N, C, rfl⟩ := hv
  have hq1 : ¬ (q : Int) < 1 := by omega
  refine callsIn_of_wp Try.func26 rfl trivial ?_ rfl
  simp only [Try.ntmps26, List.size_toArray, List.length_cons, List.length_nil, Nat.reduceAdd, Nat.reduceSub, Array.replicate_succ, Array.replicate_zero, List.push_toArray, List.append_toArray, List.nil_append, List.cons_append]
  gi_wp2
  go_ret
  exact ⟨rfl, rfl⟩

set_option maxRecDepth 100000 in
set_option maxHeartbeats 4000000 in
theorem chunks_in (n : Nat) (hn : 1 ≤ n) (l B1 B2 b cap q m : Nat) (hq : 1 ≤ q) (hqm : q * m ≤ cap) (hsz : q * m ≤ 1000000) (J : Nat → World → Prop) (Jp : List PanicEntry → World → Prop) (W : World)
    (hcell : ∀ k W, J k W → W.cell? ⟨B1, 0, none⟩ = some (.slice (some ⟨b, 0, none⟩) (q * m) cap) ∧ W.cell? ⟨B2, 0, none⟩ = some (.int .i64 (q : Int)))
    (hdraw : ∀ k W d, J k W → J k (W.drewN d))
    (hY : ∀ k W, k < m → J k W → YieldAt Fence.wide (n - 1) Try.prog l #[.slice (some ⟨b, q * k, none⟩) q q] W fun e W' => (e = .returned (.bool true) ∧ J (k + 1) W') ∨ ∃ ch, e = .panicked ch ∧ Jp ch W')
    (h0 : J 0 W) :
    CallsIn Fence.wide n Try.prog 36 #[.func (.yield l) #[] #[], .pointer (some ⟨B1, 0, none⟩), .pointer (some ⟨B2, 0, none⟩)] W fun e W' => (∃ v, e = .returned v ∧ J m W') ∨ ∃ ch, e = .panicked ch ∧ Jp ch W' := by
  obtain ⟨N, hN⟩ : ∃ N, q * m = N := ⟨_, rfl⟩
  have HN := Lib.hid hN
  rw [hN] at hcell hqm hsz
  have HC := Lib.hid hcell
  have HD := Lib.hid hdraw
  have HY := Lib.hid hY
  have HJ0 := Lib.hid h0
  clear hcell hdraw hY h0 hN
  refine callsIn_of_wp Try.func36 rfl trivial ?_ rfl
  simp only [Try.ntmps36, List.size_toArray, List.length_cons, List.length_nil, Nat.reduceAdd, Nat.reduceSub, Array.replicate_succ, Array.replicate_zero, List.push_toArray, List.append_toArray, List.nil_append, List.cons_append]
  gi_wp2
  gi_loopw [4] (fun v wr => ∃ k a : Nat, v = .int .i64 (a : Int) ∧ k ≤ m ∧ Hid (q * k = a) ∧ Hid (J k wr)) (fun v _ => N - (intOf v).toNat)
  case atStart => exact ⟨0, 0, rfl, by omega, Lib.hid rfl, HJ0⟩
  case round =>
    obtain ⟨k, a, rfl, hk, HA, HJ⟩ := hrel
    obtain ⟨c1, c2⟩ := HC.out k wr HJ.out
    by_cases hkm : k < m
    · have hfit : a + q ≤ N := by
        have h1 : q * (k + 1) ≤ q * m := Nat.mul_le_mul_left q hkm
        rw [Nat.mul_add, Nat.mul_one, HA.out, HN.out] at h1
        exact h1
      have i1 : (a : Int) < (N : Int) := by omega
      have i2 : (0 : Int) ≤ (a : Int) := by omega
      have i3 : (a : Int) ≤ (N : Int) := by omega
      have i4 : (a : Int) ≤ (cap : Int) := by omega
      obtain ⟨r, hr⟩ : ∃ r, N - a = r := ⟨_, rfl⟩
      have hr2 : ((N : Int) - (a : Int)) = (r : Int) := by omega
      have hmin : min (q : Int) (r : Int) = (q : Int) := by omega
      have hA2 : q * (k + 1) = a + q := by rw [Nat.mul_add, Nat.mul_one, HA.out]
      have HA2 := Lib.hid hA2
      have i5 : (a : Int) + (q : Int) ≤ (cap : Int) := by omega
      have i6 : (a : Int) ≤ (a : Int) + (q : Int) := by omega
      have i7 : (0 : Int) ≤ (a : Int) + (q : Int) := by omega
      gi_wp2
      gi_quiet (fail)
      obtain ⟨fn, tmps, assign, body, hy, hR⟩ := HY.out k _ hkm (HD.out k wr nq HJ.out)
      rw [HA.out] at hy
      have HR := Lib.hid hR
      obtain ⟨d1, d2⟩ := HC.out k _ (HD.out k wr nq HJ.out)
      clear hr hA2 c1 c2 hR
      gi_wp2
      refine HR.out.mono ?_
      rintro e W3 (⟨rfl, hJ3⟩ | ⟨ch, rfl, hp⟩)
      · have HJ3 := Lib.hid hJ3
        obtain ⟨c1, c2⟩ := HC.out _ _ hJ3
        clear hJ3 d1 d2 hy
        gi_wp2
        go_roundw
        case rel => exact ⟨k + 1, a + q, by go_num, by omega, HA2, HJ3⟩
        case measure => simp [intOf]; omega
      · have HP := Lib.hid hp
        clear hp d1 d2 hy
        gi_wp2
        exact ⟨rfl, .inr ⟨ch, rfl, HP.out⟩⟩
    · obtain rfl : k = m := by omega
      have hae : a = N := by rw [← HA.out]; exact HN.out
      subst hae
      gi_wp2
      go_end0
      exact .inl ⟨_, rfl, HJ.out⟩
end Go.Proofs.Yticliemmplefoaa
