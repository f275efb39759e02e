/-
  The library's Backward over rows of coins.
-/
import Derived.Test.YtikdkgndikdelaaCodR
namespace Go.Proofs.Ytikdkgndikdelaa
open Go.RowKit Cod Go.Shelf
attribute [local go_sem] Oper.semAt_some

theorem backward_in (n : Nat) (A : Option Addr) (N C : Nat) (w : World) :
    CallsIn Fence.wide n Try.prog 55 #[.slice A N C] w fun e w' => e = .returned (.func (.func 65) #[] #[.pointer (some ⟨w.heap.size, 0, none⟩)]) ∧ w' = w.alloc (.cells #[.slice A N C] 82) := by
  refine callsIn_of_wp Try.func55 rfl trivial ?_ rfl
  simp only [Try.ntmps55, List.size_toArray, List.length_cons, List.length_nil, Nat.reduceAdd, Nat.reduceSub, Array.replicate_succ, Array.replicate_zero, List.push_toArray, List.append_toArray, List.nil_append, List.cons_append]
  gi_wp2
  go_ret
  exact ⟨rfl, rfl⟩

/-- A round of n: its number. -/
abbrev AtN (n : Nat) := { k : Nat // k < n }
def encB (rv : List Value) (n : Nat) (x : AtN n) : Array Value := #[.int .i64 ((n - 1 - x.1 : Nat) : Int), rv.getD (n - 1 - x.1) undef]

set_option maxRecDepth 100000 in
set_option maxHeartbeats 4000000 in
theorem backs_in (m : Nat) (hm : 1 ≤ m) (lp B1 Q n cap : Nat) (rv : List Value) (hn : n ≤ 1000) (K : Nat → Prop) (J Jx : List (AtN n) → World → Prop)
    (hY : ∀ pre x W, J pre W → pre.length < n → YieldAt Fence.wide (m - 1) Try.prog lp (encB rv n x) W fun e W' =>
      (e = .returned (.bool true) ∧ J (pre ++ [x]) W' ∧ KeptB K W W') ∨ (e = .returned (.bool false) ∧ Jx (pre ++ [x]) W'))
    (W : World) (h1 : K B1) (h2 : K Q) (hc1 : W.cell? ⟨B1, 0, none⟩ = some (.slice (some ⟨Q, 0, none⟩) n cap)) (hrow : ∀ j, j < n → W.cell? ⟨Q, j, none⟩ = some (rv.getD j undef)) (h0 : J [] W) :
    CallsIn Fence.wide m Try.prog 65 #[.func (.yield lp) #[] #[], .pointer (some ⟨B1, 0, none⟩)] W fun e W' => (∃ v, e = .returned v) ∧
      ((∃ ys : List (AtN n), ys.map (·.1) = List.range n ∧ J ys W') ∨ (∃ pre, True ∧ Jx pre W')) := by
  have HY := Lib.hid hY
  have HJ0 := Lib.hid h0
  have HC1 := Lib.hid hc1
  have HRW := Lib.hid hrow
  clear hY h0 hrow
  refine callsIn_of_wp Try.func65 rfl trivial ?_ rfl
  simp only [Try.ntmps65, List.size_toArray, List.length_cons, List.length_nil, Nat.reduceAdd, Nat.reduceSub, Array.replicate_succ, Array.replicate_zero, List.push_toArray, List.append_toArray, List.nil_append, List.cons_append]
  gi_wp2
  gi_loopw [3] (fun v wr => ∃ (pre : List (AtN n)) (k : Nat) (a : Int), v = .int .i64 a ∧ Hid (a = (n : Int) - 1 - (k : Int)) ∧ k ≤ n ∧ Hid (pre.map (·.1) = List.range k ∧ pre.length = k) ∧ Hid (J pre wr) ∧ Hid (KeptB K W wr)) (fun v _ => ((intOf v) + 1).toNat)
  case atStart => exact ⟨[], 0, _, rfl, Lib.hid (by omega), by omega, Lib.hid ⟨rfl, rfl⟩, HJ0, Lib.hid (KeptB.refl _ _)⟩
  case round =>
    obtain ⟨pre, k, a, rfl, HA, hk, HP, HJ, HK⟩ := hrel
    have c1 : wr.cell? ⟨B1, 0, none⟩ = some (.slice (some ⟨Q, 0, none⟩) n cap) := (HK.out.cell h1 0).trans HC1.out
    by_cases hlt : k < n
    · obtain ⟨j, hj⟩ : ∃ j : Nat, n - 1 - k = j := ⟨_, rfl⟩
      have haj : a = (j : Int) := by have := HA.out; omega
      subst haj
      have c2 : wr.cell? ⟨Q, j, none⟩ = some (rv.getD j undef) := (HK.out.cell h2 j).trans (HRW.out j (by omega))
      have i1 : (0 : Int) ≤ (j : Int) := by omega
      have i2 : (j : Int) < (n : Int) := by omega
      have HN := Lib.hid (show (pre ++ [(⟨k, hlt⟩ : AtN n)]).map (·.1) = List.range (k + 1) ∧ (pre ++ [(⟨k, hlt⟩ : AtN n)]).length = k + 1 from ⟨by rw [List.map_append, HP.out.1, List.range_succ]; rfl, by rw [List.length_append, HP.out.2]; rfl⟩)
      obtain ⟨fn, tmps, assign, body, hy, hR⟩ := HY.out pre ⟨k, hlt⟩ wr HJ.out (by rw [HP.out.2]; omega)
      dsimp only [encB] at hy
      rw [hj] at hy
      obtain ⟨u, hu⟩ : ∃ u, rv.getD j undef = u := ⟨_, rfl⟩
      rw [hu] at hy c2
      have HR := Lib.hid hR
      have HJJ := Lib.hid hj
      clear hR hj hu
      gi_wp2
      refine HR.out.mono ?_
      rintro e W3 (⟨rfl, hJ3, hk3⟩ | ⟨rfl, hJx3⟩)
      · have HB3 := Lib.hid (HK.out.trans hk3)
        have g1 : W3.cell? ⟨B1, 0, none⟩ = some (.slice (some ⟨Q, 0, none⟩) n cap) := (HB3.out.cell h1 0).trans HC1.out
        have HJ3 := Lib.hid hJ3
        clear hJ3 hk3 c1 c2 hy
        gi_wp2
        go_roundw
        case rel => exact ⟨pre ++ [⟨k, hlt⟩], k + 1, _, rfl, Lib.hid (by have := HJJ.out; omega), by omega, HN, HJ3, HB3⟩
        case measure => simp [intOf]
      · have HX := Lib.hid hJx3
        clear hJx3 c1 c2 hy
        gi_wp2
        refine bodyPost_ret (results_none rfl _ _ _) rfl ?_
        exact ⟨⟨_, rfl⟩, .inr ⟨_, trivial, HX.out⟩⟩
    · have hkn : k = n := by omega
      have haj : a = -1 := by have := HA.out; omega
      subst haj
      have HF := Lib.hid (show pre.map (·.1) = List.range n by have := HP.out.1; rw [hkn] at this; exact this)
      gi_wp2
      go_end0
      exact ⟨⟨_, rfl⟩, .inl ⟨pre, HF.out, HJ.out⟩⟩
theorem back_stops (m : Nat) (hm : 1 ≤ m) (B1 Q n cap : Nat) (rv : List Value) (hn : n ≤ 1000) (K : Nat → Prop) (w : World) (h1 : K B1) (h2 : K Q) (b1 : B1 < w.heap.size) (b2 : Q < w.heap.size)
    (hc1 : w.cell? ⟨B1, 0, none⟩ = some (.slice (some ⟨Q, 0, none⟩) n cap)) (hrow : ∀ j, j < n → w.cell? ⟨Q, j, none⟩ = some (rv.getD j undef)) :
    SeqStopsK Fence.wide m Try.prog 65 #[.pointer (some ⟨B1, 0, none⟩)] (encB rv n) (KeptB K) (fun ys => ys.map (·.1) = List.range n) (fun _ => True) n w := fun l J Jx W hW _ _ hY h0 =>
  backs_in m hm l B1 Q n cap rv hn K J Jx hY W h1 h2 ((hW.cell (p := ⟨B1, 0, none⟩) b1).trans hc1) (fun j hj => (hW.cell (p := ⟨Q, j, none⟩) b2).trans (hrow j hj)) h0
end Go.Proofs.Ytikdkgndikdelaa
