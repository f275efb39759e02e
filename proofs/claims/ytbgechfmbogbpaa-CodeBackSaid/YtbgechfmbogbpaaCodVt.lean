/-
  The library's Backward over rows of coins: its rounds know their numbers.
-/
import Derived.Test.YtbgechfmbogbpaaRgTied
namespace Go.Proofs.Ytbgechfmbogbpaa
open Go.RowKit Cod Go.Shelf
attribute [local go_sem] Oper.semAt_some

def encT (rv : List Value) (n k : Nat) : Array Value := #[.int .i64 ((n - 1 - k : Nat) : Int), rv.getD (n - 1 - k) undef]

set_option maxRecDepth 100000 in
set_option maxHeartbeats 4000000 in
theorem backs_tied (m : Nat) (lp B1 Q n cap : Nat) (rv : List Value) (hn : n ≤ 1000) (K : Nat → Prop) (J : Nat → World → Prop)
    (hY : ∀ k W, J k W → k < n → YieldAt Fence.wide (m - 1) Try.prog lp (encT rv n k) W fun e W' => e = .returned (.bool true) ∧ J (k + 1) W' ∧ KeptB K W W')
    (W : World) (h1 : K B1) (h2 : K Q) (hc1 : W.cell? ⟨B1, 0, none⟩ = some (.slice (some ⟨Q, 0, none⟩) n cap)) (hrow : ∀ j, j < n → W.cell? ⟨Q, j, none⟩ = some (rv.getD j undef)) (h0 : J 0 W) :
    CallsIn Fence.wide m Try.prog 65 #[.func (.yield lp) #[] #[], .pointer (some ⟨B1, 0, none⟩)] W fun e W' => (∃ v, e = .returned v) ∧ J n W' := by
  have HY := Lib.hid hY
  have HJ0 := Lib.hid h0
  have HC1 := Lib.hid hc1
  have HRW := Lib.hid hrow
  clear hY h0 hrow
  refine callsIn_of_wp Try.func65 rfl trivial ?_ rfl
  simp only [Try.ntmps65, List.size_toArray, List.length_cons, List.length_nil, Nat.reduceAdd, Nat.reduceSub, Array.replicate_succ, Array.replicate_zero, List.push_toArray, List.append_toArray, List.nil_append, List.cons_append]
  gi_wp2
  gi_loopw [3] (fun v wr => ∃ (k : Nat) (a : Int), v = .int .i64 a ∧ Hid (a = (n : Int) - 1 - (k : Int)) ∧ k ≤ n ∧ Hid (J k wr) ∧ Hid (KeptB K W wr)) (fun v _ => ((intOf v) + 1).toNat)
  case atStart => exact ⟨0, _, rfl, Lib.hid (by omega), by omega, HJ0, Lib.hid (KeptB.refl _ _)⟩
  case round =>
    obtain ⟨k, a, rfl, HA, hk, HJ, HK⟩ := hrel
    have c1 : wr.cell? ⟨B1, 0, none⟩ = some (.slice (some ⟨Q, 0, none⟩) n cap) := (HK.out.cell h1 0).trans HC1.out
    by_cases hlt : k < n
    · obtain ⟨j, hj⟩ : ∃ j : Nat, n - 1 - k = j := ⟨_, rfl⟩
      have haj : a = (j : Int) := by have := HA.out; omega
      subst haj
      have c2 : wr.cell? ⟨Q, j, none⟩ = some (rv.getD j undef) := (HK.out.cell h2 j).trans (HRW.out j (by omega))
      have i1 : (0 : Int) ≤ (j : Int) := by omega
      have i2 : (j : Int) < (n : Int) := by omega
      obtain ⟨fn, tmps, assign, body, hy, hR⟩ := HY.out k wr HJ.out hlt
      dsimp only [encT] at hy
      rw [hj] at hy
      obtain ⟨u, hu⟩ : ∃ u, rv.getD j undef = u := ⟨_, rfl⟩
      rw [hu] at hy c2
      have HR := Lib.hid hR
      have HJJ := Lib.hid hj
      clear hR hj hu
      gi_wp2
      refine ⟨fun h => (by cases h), HR.out.mono ?_⟩
      rintro e W3 ⟨rfl, hJ3, hk3⟩
      have HB3 := Lib.hid (HK.out.trans hk3)
      have g1 : W3.cell? ⟨B1, 0, none⟩ = some (.slice (some ⟨Q, 0, none⟩) n cap) := (HB3.out.cell h1 0).trans HC1.out
      have HJ3 := Lib.hid hJ3
      clear hJ3 hk3 c1 c2 hy
      gi_wp2
      go_roundw
      case rel => exact ⟨k + 1, _, rfl, Lib.hid (by have := HJJ.out; omega), by omega, HJ3, HB3⟩
      case measure => simp [intOf]
    · have hkn : k = n := by omega
      have haj : a = -1 := by have := HA.out; omega
      subst haj
      have HF := Lib.hid (show J n wr by rw [← hkn]; exact HJ.out)
      gi_wp2
      go_end0
      exact ⟨⟨_, rfl⟩, HF.out⟩
theorem back_tied (m : Nat) (B1 Q n cap : Nat) (rv : List Value) (hn : n ≤ 1000) (K : Nat → Prop) (w : World) (h1 : K B1) (h2 : K Q) (b1 : B1 < w.heap.size) (b2 : Q < w.heap.size)
    (hc1 : w.cell? ⟨B1, 0, none⟩ = some (.slice (some ⟨Q, 0, none⟩) n cap)) (hrow : ∀ j, j < n → w.cell? ⟨Q, j, none⟩ = some (rv.getD j undef)) :
    SeqTied m Try.prog 65 #[.pointer (some ⟨B1, 0, none⟩)] (encT rv n) (KeptB K) n w := fun l J W hW hY h0 =>
  backs_tied m l B1 Q n cap rv hn K J hY W h1 h2 ((hW.cell (p := ⟨B1, 0, none⟩) b1).trans hc1) (fun j hj => (hW.cell (p := ⟨Q, j, none⟩) b2).trans (hrow j hj)) h0

theorem backward_in (n : Nat) (A : Option Addr) (N C : Nat) (w : World) :
    CallsIn Fence.wide n Try.prog 55 #[.slice A N C] w fun e w' => e = .returned (.func (.func 65) #[] #[.pointer (some ⟨w.heap.size, 0, none⟩)]) ∧ w' = w.alloc (.cells #[.slice A N C] 82) := by
  refine callsIn_of_wp Try.func55 rfl trivial ?_ rfl
  simp only [Try.ntmps55, List.size_toArray, List.length_cons, List.length_nil, Nat.reduceAdd, Nat.reduceSub, Array.replicate_succ, Array.replicate_zero, List.push_toArray, List.append_toArray, List.nil_append, List.cons_append]
  gi_wp2
  go_ret
  exact ⟨rfl, rfl⟩
end Go.Proofs.Ytbgechfmbogbpaa
