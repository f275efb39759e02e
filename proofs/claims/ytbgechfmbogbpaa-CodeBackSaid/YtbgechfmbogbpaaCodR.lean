/-
  The library's Chunk over coins, by twos.
-/
import Derived.RangeFuncBox
import Derived.RangeFuncNested
import Derived.RangeFuncBound
import Derived.RangeFuncCalls
import Derived.RangeFuncLeaves
import Derived.RangeFuncWrites
import Derived.Shelf.RegionOpen
import Derived.OwnWalkIn
import Derived.TacticsInMore
import Derived.LoopNIn
import Derived.LoopIn
import Derived.Sort.QuietIn
import Derived.Test.YtbgechfmbogbpaaCodP
namespace Go.Proofs.Ytbgechfmbogbpaa
open Go.RowKit Cod Go.Shelf
attribute [local go_sem] Oper.semAt_some

/-- The blocks of S lie as they lay. -/
def KeptB (S : Nat → Prop) (A B : World) : Prop := ∀ b, S b → B.heap[b]? = A.heap[b]?
theorem KeptB.refl (S : Nat → Prop) (A : World) : KeptB S A A := fun _ _ => rfl
theorem KeptB.trans {S : Nat → Prop} {A B C : World} (h : KeptB S A B) (k : KeptB S B C) : KeptB S A C := fun b hb => (k b hb).trans (h b hb)
theorem KeptB.cell {S : Nat → Prop} {A B : World} (h : KeptB S A B) {b : Nat} (hb : S b) (i : Nat) : B.cell? ⟨b, i, none⟩ = A.cell? ⟨b, i, none⟩ := by simp [World.cell?, h b hb]

theorem chunk_in (n : Nat) (A : Option Addr) (N C : Nat) (w : World) :
    CallsIn Fence.wide n Try.prog 63 #[.slice A N C, .int .i64 2] w fun e w' => e = .returned (.func (.func 70) #[] #[.pointer (some ⟨w.heap.size, 0, none⟩), .pointer (some ⟨w.heap.size + 1, 0, none⟩)]) ∧ w' = (w.alloc (.cells #[.slice A N C] 65)).alloc (.cells #[.int .i64 2] 3) := by
  refine callsIn_of_wp Try.func63 rfl trivial ?_ rfl
  simp only [Try.ntmps63, List.size_toArray, List.length_cons, List.length_nil, Nat.reduceAdd, Nat.reduceSub, Array.replicate_succ, Array.replicate_zero, List.push_toArray, List.append_toArray, List.nil_append, List.cons_append]
  gi_wp2
  go_ret
  exact ⟨rfl, rfl⟩

/-- A chunk of a row of n coins: its number. -/
abbrev At2 (n : Nat) := { k : Nat // 2 * k < n }
/-- How many coins it has. -/
def two (n k : Nat) : Nat := if 2 * k + 2 ≤ n then 2 else 1
def encK (b n : Nat) (x : At2 n) : Array Value := #[.slice (some ⟨b, 2 * x.1 * 2, none⟩) (two n x.1) (two n x.1)]

set_option maxRecDepth 100000 in
set_option maxHeartbeats 4000000 in
theorem chunks_in (m : Nat) (hm : 1 ≤ m) (l B1 B2 b n cap : Nat) (hn : n ≤ cap) (hs : n ≤ 1000) (K : Nat → Prop) (J Jx : List (At2 n) → World → Prop) (hD : ∀ pre W d, J pre W → J pre (W.drewN d))
    (hY : ∀ pre x W, J pre W → pre.length < n → YieldAt Fence.wide (m - 1) Try.prog l (encK b n x) W fun e W' =>
      (e = .returned (.bool true) ∧ J (pre ++ [x]) W' ∧ KeptB K W W') ∨ (e = .returned (.bool false) ∧ Jx (pre ++ [x]) W'))
    (W : World) (h1 : K B1) (h2 : K B2) (hc1 : W.cell? ⟨B1, 0, none⟩ = some (.slice (some ⟨b, 0, none⟩) n cap)) (hc2 : W.cell? ⟨B2, 0, none⟩ = some (.int .i64 2)) (h0 : J [] W) :
    CallsIn Fence.wide m Try.prog 70 #[.func (.yield l) #[] #[], .pointer (some ⟨B1, 0, none⟩), .pointer (some ⟨B2, 0, none⟩)] W fun e W' => (∃ v, e = .returned v) ∧
      ((∃ ys : List (At2 n), ys.map (·.1) = List.range ((n + 1) / 2) ∧ J ys W') ∨ (∃ pre, True ∧ Jx pre W')) := by
  have HD := Lib.hid hD
  have HY := Lib.hid hY
  have HJ0 := Lib.hid h0
  have HC1 := Lib.hid hc1
  have HC2 := Lib.hid hc2
  clear hD hY h0
  refine callsIn_of_wp Try.func70 rfl trivial ?_ rfl
  simp only [Try.ntmps70, List.size_toArray, List.length_cons, List.length_nil, Nat.reduceAdd, Nat.reduceSub, Array.replicate_succ, Array.replicate_zero, List.push_toArray, List.append_toArray, List.nil_append, List.cons_append]
  gi_wp2
  gi_loopw [4] (fun v wr => ∃ (pre : List (At2 n)) (k a : Nat), v = .int .i64 (a : Int) ∧ a = 2 * k ∧ a ≤ n + 1 ∧ Hid (pre.map (·.1) = List.range k ∧ pre.length = k) ∧ Hid (J pre wr) ∧ Hid (KeptB K W wr)) (fun v _ => n + 2 - (intOf v).toNat)
  case atStart => exact ⟨[], 0, 0, rfl, rfl, by omega, Lib.hid ⟨rfl, rfl⟩, HJ0, Lib.hid (KeptB.refl _ _)⟩
  case round =>
    obtain ⟨pre, k, a, rfl, hak, han, HP, HJ, HK⟩ := hrel
    have c1 : wr.cell? ⟨B1, 0, none⟩ = some (.slice (some ⟨b, 0, none⟩) n cap) := (HK.out.cell h1 0).trans HC1.out
    have c2 : wr.cell? ⟨B2, 0, none⟩ = some (.int .i64 2) := (HK.out.cell h2 0).trans HC2.out
    by_cases hlt : a < n
    · have hk2 : 2 * k < n := by omega
      have i1 : (a : Int) < (n : Int) := by omega
      have i2 : (0 : Int) ≤ (a : Int) := by omega
      have i3 : (a : Int) ≤ (n : Int) := by omega
      have i4 : (a : Int) ≤ (cap : Int) := by omega
      obtain ⟨r, hr⟩ : ∃ r, n - a = r := ⟨_, rfl⟩
      have hr2 : ((n : Int) - (a : Int)) = (r : Int) := by omega
      obtain ⟨t, ht⟩ : ∃ t, two n k = t := ⟨_, rfl⟩
      have htv : t = 1 ∨ t = 2 := by rw [← ht]; unfold two; split <;> omega
      have hta : a + t ≤ n := by rw [← ht]; unfold two; split <;> omega
      have HN := Lib.hid (show (pre ++ [(⟨k, hk2⟩ : At2 n)]).map (·.1) = List.range (k + 1) ∧ (pre ++ [(⟨k, hk2⟩ : At2 n)]).length = k + 1 from ⟨by rw [List.map_append, HP.out.1, List.range_succ]; rfl, by rw [List.length_append, HP.out.2]; rfl⟩)
      have HAK := Lib.hid hak
      have htr : (t = 1 ∧ r = 1) ∨ (t = 2 ∧ 2 ≤ r) := by rw [← ht]; unfold two; split <;> omega
      have HTW := Lib.hid ht
      clear hak ht htv hr2
      have i6 : (0 : Int) ≤ (a : Int) + 1 := by omega
      have i7 : (0 : Int) ≤ (a : Int) + 2 := by omega
      have i8 : (a : Int) ≤ (a : Int) + 1 := by omega
      have i9 : (a : Int) ≤ (a : Int) + 2 := by omega
      have j1 : ((a : Int) + 1).toNat - a = 1 := by omega
      have j2 : ((a : Int) + 2).toNat - a = 2 := by omega
      rcases htr with ⟨rfl, rfl⟩ | ⟨rfl, h2r⟩
      · have i5 : (a : Int) + 1 ≤ (cap : Int) := by omega
        have m1 : ¬ (2 : Int) < 1 := by decide
        gi_wp2
        gi_quiet (fail)
        obtain ⟨fn, tmps, assign, body, hy, hR⟩ := HY.out pre ⟨k, hk2⟩ _ (HD.out pre wr nq HJ.out) (by rw [HP.out.2]; omega)
        dsimp only [encK] at hy
        rw [HTW.out, ← HAK.out] at hy
        have HR := Lib.hid hR
        have HKd := Lib.hid (show KeptB K W (wr.drewN nq) from fun b hb => HK.out b hb)
        have d1 : (wr.drewN nq).cell? ⟨B1, 0, none⟩ = some (.slice (some ⟨b, 0, none⟩) n cap) := c1
        have d2 : (wr.drewN nq).cell? ⟨B2, 0, none⟩ = some (.int .i64 2) := c2
        clear hr c1 c2 hR
        gi_wp2
        refine HR.out.mono ?_
        rintro e W3 (⟨rfl, hJ3, hk3⟩ | ⟨rfl, hJx3⟩)
        · have HB3 := Lib.hid (HKd.out.trans hk3)
          have g1 : W3.cell? ⟨B1, 0, none⟩ = some (.slice (some ⟨b, 0, none⟩) n cap) := (HB3.out.cell h1 0).trans HC1.out
          have g2 : W3.cell? ⟨B2, 0, none⟩ = some (.int .i64 2) := (HB3.out.cell h2 0).trans HC2.out
          have HJ3 := Lib.hid hJ3
          clear hJ3 hk3 d1 d2 hy
          gi_wp2
          go_roundw
          case rel => exact ⟨pre ++ [⟨k, hk2⟩], k + 1, a + 2, by go_num, by rw [HAK.out]; omega, by omega, HN, HJ3, HB3⟩
          case measure => simp [intOf]; omega
        · have HX := Lib.hid hJx3
          clear hJx3 d1 d2 hy
          gi_wp2
          refine bodyPost_ret (results_none rfl _ _ _) rfl ?_
          exact ⟨⟨_, rfl⟩, .inr ⟨_, trivial, HX.out⟩⟩
      · have i5 : (a : Int) + 2 ≤ (cap : Int) := by omega
        have m1 : ¬ (r : Int) < 2 := by omega
        have m2 : (2 : Int) ≤ (r : Int) := by omega
        gi_wp2
        gi_quiet (fail)
        obtain ⟨fn, tmps, assign, body, hy, hR⟩ := HY.out pre ⟨k, hk2⟩ _ (HD.out pre wr nq HJ.out) (by rw [HP.out.2]; omega)
        dsimp only [encK] at hy
        rw [HTW.out, ← HAK.out] at hy
        have HR := Lib.hid hR
        have HKd := Lib.hid (show KeptB K W (wr.drewN nq) from fun b hb => HK.out b hb)
        have d1 : (wr.drewN nq).cell? ⟨B1, 0, none⟩ = some (.slice (some ⟨b, 0, none⟩) n cap) := c1
        have d2 : (wr.drewN nq).cell? ⟨B2, 0, none⟩ = some (.int .i64 2) := c2
        clear hr c1 c2 hR
        gi_wp2
        refine HR.out.mono ?_
        rintro e W3 (⟨rfl, hJ3, hk3⟩ | ⟨rfl, hJx3⟩)
        · have HB3 := Lib.hid (HKd.out.trans hk3)
          have g1 : W3.cell? ⟨B1, 0, none⟩ = some (.slice (some ⟨b, 0, none⟩) n cap) := (HB3.out.cell h1 0).trans HC1.out
          have g2 : W3.cell? ⟨B2, 0, none⟩ = some (.int .i64 2) := (HB3.out.cell h2 0).trans HC2.out
          have HJ3 := Lib.hid hJ3
          clear hJ3 hk3 d1 d2 hy
          gi_wp2
          go_roundw
          case rel => exact ⟨pre ++ [⟨k, hk2⟩], k + 1, a + 2, by go_num, by rw [HAK.out]; omega, by omega, HN, HJ3, HB3⟩
          case measure => simp [intOf]; omega
        · have HX := Lib.hid hJx3
          clear hJx3 d1 d2 hy
          gi_wp2
          refine bodyPost_ret (results_none rfl _ _ _) rfl ?_
          exact ⟨⟨_, rfl⟩, .inr ⟨_, trivial, HX.out⟩⟩
    · have hkn : k = (n + 1) / 2 := by omega
      have HF := Lib.hid (show pre.map (·.1) = List.range ((n + 1) / 2) by rw [← hkn]; exact HP.out.1)
      have i1 : ¬ (a : Int) < (n : Int) := by omega
      gi_wp2
      go_end0
      exact ⟨⟨_, rfl⟩, .inl ⟨pre, HF.out, HJ.out⟩⟩
theorem chunk_stops (m : Nat) (hm : 1 ≤ m) (B1 B2 b n cap : Nat) (hn : n ≤ cap) (hs : n ≤ 1000) (K : Nat → Prop) (w : World) (h1 : K B1) (h2 : K B2) (b1 : B1 < w.heap.size) (b2 : B2 < w.heap.size)
    (hc1 : w.cell? ⟨B1, 0, none⟩ = some (.slice (some ⟨b, 0, none⟩) n cap)) (hc2 : w.cell? ⟨B2, 0, none⟩ = some (.int .i64 2)) :
    SeqStopsK Fence.wide m Try.prog 70 #[.pointer (some ⟨B1, 0, none⟩), .pointer (some ⟨B2, 0, none⟩)] (encK b n) (KeptB K) (fun ys => ys.map (·.1) = List.range ((n + 1) / 2)) (fun _ => True) n w := fun l J Jx W hW hJ _ hY h0 =>
  chunks_in m hm l B1 B2 b n cap hn hs K J Jx (fun pre W d h => hJ pre W (W.drewN d) none h (grown_drewN (World.grownBy.refl _ _) d) (by simp)) hY W h1 h2 ((hW.cell (p := ⟨B1, 0, none⟩) b1).trans hc1) ((hW.cell (p := ⟨B2, 0, none⟩) b2).trans hc2) h0
end Go.Proofs.Ytbgechfmbogbpaa
