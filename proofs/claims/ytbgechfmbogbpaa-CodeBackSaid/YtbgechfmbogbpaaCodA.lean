/-
  code's upTo and count, over a row of numbers in memory.
-/
import Derived.Test.YtbgechfmbogbpaaCodMath
import Derived.Test.YtbgechfmbogbpaaBlk
import Derived.WalkKit
import Derived.WalkSpells
import Derived.BigQuiet
import Derived.Lib.Hide
import Derived.Deep.RegionWith
import Derived.Deep.DeepCutAuto
import Derived.LoopTactic
import Derived.RegionTactic
import Derived.IntWalk
namespace Go.Proofs.Ytbgechfmbogbpaa
open Go.RowKit Cod

/-- A row of numbers in memory. -/
def IAt (w : World) (A : Option Addr) (l : List Int) : Prop :=
  ∀ j (h : j < l.length), ∃ b off : Nat, A = some ⟨b, off, none⟩ ∧ b < w.heap.size ∧ w.cell? ⟨b, off + j, none⟩ = some (.int .i64 l[j])
theorem IAt.below {w w' : World} {A : Option Addr} {l : List Int} (h : IAt w A l) (hb : Below w.heap.size w w') : IAt w' A l := fun j hj => by
  obtain ⟨b, off, ha, hlt, h1⟩ := h j hj
  exact ⟨b, off, ha, Nat.lt_of_lt_of_le hlt hb.size, (hb.cell (p := ⟨b, _, none⟩) hlt).trans h1⟩
theorem IAt.nil (w : World) (A : Option Addr) : IAt w A [] := fun _ hj => absurd hj (Nat.not_lt_zero _)

set_option maxRecDepth 100000 in
theorem upTo_any (n most : Int) (w : World) : Calls Try.prog 34 #[.int .i64 n, .int .i64 most] w fun e w' => e = .returned (.bool (decide (0 ≤ n) && decide (n ≤ most))) ∧ w = w' := by
  by_cases h : 0 ≤ n
  · go_enter Try.func34, Try.ntmps34
    go_wp2_with fail
    go_ret
    simp [h]
  · go_enter Try.func34, Try.ntmps34
    go_wp2_with fail
    go_ret
    simp
    omega

/-- The cells of a tally. -/
def tcell (l : List Int) (n : Nat) : Value := .int .i64 (if n = 0 then 0 else (cnt l (n : Int) : Int))
def tc (l : List Int) : Array Value := #[tcell l 0, tcell l 1, tcell l 2, tcell l 3, tcell l 4, tcell l 5, tcell l 6, tcell l 7, tcell l 8, tcell l 9, tcell l 10, tcell l 11, tcell l 12, tcell l 13, tcell l 14, tcell l 15]
theorem tc_at (l : List Int) (n : Nat) (h : n < 16) : (tc l)[n]? = some (tcell l n) := by
  have : n = 0 ∨ n = 1 ∨ n = 2 ∨ n = 3 ∨ n = 4 ∨ n = 5 ∨ n = 6 ∨ n = 7 ∨ n = 8 ∨ n = 9 ∨ n = 10 ∨ n = 11 ∨ n = 12 ∨ n = 13 ∨ n = 14 ∨ n = 15 := by omega
  rcases this with rfl | rfl | rfl | rfl | rfl | rfl | rfl | rfl | rfl | rfl | rfl | rfl | rfl | rfl | rfl | rfl <;> rfl
theorem tc_more (l : List Int) (x : Nat) (h0 : 0 < x) (h : x < 16) : (tc l).setIfInBounds x (.int .i64 ((cnt l (x : Int) : Int) + 1)) = tc (l ++ [(x : Int)]) := by
  apply Array.ext_getElem?
  intro n
  by_cases hn : n < 16
  · rw [tc_at _ n hn]
    by_cases e : x = n
    · subst e
      rw [Array.getElem?_setIfInBounds_self]
      rw [if_pos (show x < (tc l).size from h)]
      unfold tcell
      rw [if_neg (by omega), cnt_snoc, if_pos rfl]
      push_cast
      rfl
    · rw [Array.getElem?_setIfInBounds_ne e, tc_at _ n hn]
      unfold tcell
      by_cases h0 : n = 0
      · rw [if_pos h0, if_pos h0]
      · rw [if_neg h0, if_neg h0, cnt_snoc, if_neg (by omega)]
        rfl
  · rw [Array.getElem?_eq_none (by rw [Array.size_setIfInBounds]; exact Nat.le_of_not_lt hn), Array.getElem?_eq_none (show (tc (l ++ [(x : Int)])).size ≤ n from Nat.le_of_not_lt hn)]
theorem tc_same (l : List Int) : tc (l ++ [0]) = tc l := by
  apply Array.ext_getElem?
  intro n
  by_cases hn : n < 16
  · rw [tc_at _ n hn, tc_at _ n hn]
    unfold tcell
    by_cases h0 : n = 0
    · rw [if_pos h0, if_pos h0]
    · rw [if_neg h0, if_neg h0, cnt_snoc, if_neg (by omega)]
      rfl
  · rw [Array.getElem?_eq_none (show (tc (l ++ [0])).size ≤ n from Nat.le_of_not_lt hn), Array.getElem?_eq_none (show (tc l).size ≤ n from Nat.le_of_not_lt hn)]

set_option maxRecDepth 100000 in
set_option maxHeartbeats 4000000 in
theorem count_any (A : Option Addr) (cap : Nat) (l : List Int) (w : World) (h : IAt w A l) (hr : rangeOk l = true) (hl : l.length ≤ 1000000) :
    Calls Try.prog 29 #[.slice A l.length cap] w fun e w' => e = .returned (.agg (tc l)) ∧ Below w.heap.size w w' := by
  obtain ⟨N, hN⟩ : ∃ N, w.heap.size = N := ⟨_, rfl⟩
  obtain ⟨n, hn⟩ : ∃ n, l.length = n := ⟨_, rfl⟩
  have HN := Lib.hid hn
  have HS := Lib.hid hN
  have HA := Lib.hid h
  have HR := Lib.hid hr
  obtain ⟨V, hV⟩ : ∃ V, (w.alloc (.cells #[.int .i64 0, .int .i64 0, .int .i64 0, .int .i64 0, .int .i64 0, .int .i64 0, .int .i64 0, .int .i64 0, .int .i64 0, .int .i64 0, .int .i64 0, .int .i64 0, .int .i64 0, .int .i64 0, .int .i64 0, .int .i64 0] 51)).alloc (.cells #[.int .i64 0, .int .i64 0, .int .i64 0, .int .i64 0, .int .i64 0, .int .i64 0, .int .i64 0, .int .i64 0, .int .i64 0, .int .i64 0, .int .i64 0, .int .i64 0, .int .i64 0, .int .i64 0, .int .i64 0, .int .i64 0] 51) = V := ⟨_, rfl⟩
  have hVs : V.heap.size = N + 2 := by rw [← hV, World.size_alloc, World.size_alloc, hN]
  have b0 : Blk V N 51 #[.int .i64 0, .int .i64 0, .int .i64 0, .int .i64 0, .int .i64 0, .int .i64 0, .int .i64 0, .int .i64 0, .int .i64 0, .int .i64 0, .int .i64 0, .int .i64 0, .int .i64 0, .int .i64 0, .int .i64 0, .int .i64 0] := by rw [← hV, ← hN]; exact (Blk.new w _ _).alloc _
  have b1 : Blk V (N + 1) 51 #[.int .i64 0, .int .i64 0, .int .i64 0, .int .i64 0, .int .i64 0, .int .i64 0, .int .i64 0, .int .i64 0, .int .i64 0, .int .i64 0, .int .i64 0, .int .i64 0, .int .i64 0, .int .i64 0, .int .i64 0, .int .i64 0] := by
    rw [← hV]
    have := Blk.new (w.alloc (.cells #[.int .i64 0, .int .i64 0, .int .i64 0, .int .i64 0, .int .i64 0, .int .i64 0, .int .i64 0, .int .i64 0, .int .i64 0, .int .i64 0, .int .i64 0, .int .i64 0, .int .i64 0, .int .i64 0, .int .i64 0, .int .i64 0] 51)) 51 #[.int .i64 0, .int .i64 0, .int .i64 0, .int .i64 0, .int .i64 0, .int .i64 0, .int .i64 0, .int .i64 0, .int .i64 0, .int .i64 0, .int .i64 0, .int .i64 0, .int .i64 0, .int .i64 0, .int .i64 0, .int .i64 0]
    rw [World.size_alloc, hN] at this
    exact this
  have B0 := Lib.hid (show Below N w V ∧ N + 2 ≤ V.heap.size from ⟨by rw [← hV, ← hN]; exact ((Below.refl _ w).alloc (Nat.le_refl _) _).alloc (by simp) _, by omega⟩)
  have R0 := Lib.hid b0
  have T0 := Lib.hid (show Blk V (N + 1) 51 (tc (l.take 0)) from b1)
  have HBn := Lib.hid (show ∀ k (h : k < l.length), 0 ≤ l[k] ∧ l[k] ≤ 15 from fun k h => by
    have := List.all_eq_true.1 hr l[k] (List.getElem_mem h)
    simp only [Bool.and_eq_true, decide_eq_true_eq] at this
    exact this)
  have HCn := Lib.hid (show ∀ k x, cnt (l.take k) x ≤ 1000000 from fun k x => by
    have h1 : cnt (l.take k) x ≤ (l.take k).length := List.countP_le_length
    have h2 : (l.take k).length ≤ l.length := by rw [List.length_take]; omega
    omega)
  rw [hN, hn]
  show Calls Try.prog 29 _ _ fun e w' => e = .returned (.agg #[tcell l 0, tcell l 1, tcell l 2, tcell l 3, tcell l 4, tcell l 5, tcell l 6, tcell l 7, tcell l 8, tcell l 9, tcell l 10, tcell l 11, tcell l 12, tcell l 13, tcell l 14, tcell l 15]) ∧ Below N w w'
  obtain ⟨t0, ht0⟩ : ∃ t : Int, tcell l 0 = .int .i64 t := ⟨_, rfl⟩
  rw [ht0]
  have HT_0 := Lib.hid ht0
  clear ht0
  obtain ⟨t1, ht1⟩ : ∃ t : Int, tcell l 1 = .int .i64 t := ⟨_, rfl⟩
  rw [ht1]
  have HT_1 := Lib.hid ht1
  clear ht1
  obtain ⟨t2, ht2⟩ : ∃ t : Int, tcell l 2 = .int .i64 t := ⟨_, rfl⟩
  rw [ht2]
  have HT_2 := Lib.hid ht2
  clear ht2
  obtain ⟨t3, ht3⟩ : ∃ t : Int, tcell l 3 = .int .i64 t := ⟨_, rfl⟩
  rw [ht3]
  have HT_3 := Lib.hid ht3
  clear ht3
  obtain ⟨t4, ht4⟩ : ∃ t : Int, tcell l 4 = .int .i64 t := ⟨_, rfl⟩
  rw [ht4]
  have HT_4 := Lib.hid ht4
  clear ht4
  obtain ⟨t5, ht5⟩ : ∃ t : Int, tcell l 5 = .int .i64 t := ⟨_, rfl⟩
  rw [ht5]
  have HT_5 := Lib.hid ht5
  clear ht5
  obtain ⟨t6, ht6⟩ : ∃ t : Int, tcell l 6 = .int .i64 t := ⟨_, rfl⟩
  rw [ht6]
  have HT_6 := Lib.hid ht6
  clear ht6
  obtain ⟨t7, ht7⟩ : ∃ t : Int, tcell l 7 = .int .i64 t := ⟨_, rfl⟩
  rw [ht7]
  have HT_7 := Lib.hid ht7
  clear ht7
  obtain ⟨t8, ht8⟩ : ∃ t : Int, tcell l 8 = .int .i64 t := ⟨_, rfl⟩
  rw [ht8]
  have HT_8 := Lib.hid ht8
  clear ht8
  obtain ⟨t9, ht9⟩ : ∃ t : Int, tcell l 9 = .int .i64 t := ⟨_, rfl⟩
  rw [ht9]
  have HT_9 := Lib.hid ht9
  clear ht9
  obtain ⟨t10, ht10⟩ : ∃ t : Int, tcell l 10 = .int .i64 t := ⟨_, rfl⟩
  rw [ht10]
  have HT_10 := Lib.hid ht10
  clear ht10
  obtain ⟨t11, ht11⟩ : ∃ t : Int, tcell l 11 = .int .i64 t := ⟨_, rfl⟩
  rw [ht11]
  have HT_11 := Lib.hid ht11
  clear ht11
  obtain ⟨t12, ht12⟩ : ∃ t : Int, tcell l 12 = .int .i64 t := ⟨_, rfl⟩
  rw [ht12]
  have HT_12 := Lib.hid ht12
  clear ht12
  obtain ⟨t13, ht13⟩ : ∃ t : Int, tcell l 13 = .int .i64 t := ⟨_, rfl⟩
  rw [ht13]
  have HT_13 := Lib.hid ht13
  clear ht13
  obtain ⟨t14, ht14⟩ : ∃ t : Int, tcell l 14 = .int .i64 t := ⟨_, rfl⟩
  rw [ht14]
  have HT_14 := Lib.hid ht14
  clear ht14
  obtain ⟨t15, ht15⟩ : ∃ t : Int, tcell l 15 = .int .i64 t := ⟨_, rfl⟩
  rw [ht15]
  have HT_15 := Lib.hid ht15
  clear ht15
  have hnb : (n : Int) ≤ 1000000 := by omega
  clear h hr hn hl b0 b1 hVs hN
  go_enter Try.func29, Try.ntmps29
  have HVV := Lib.hid hV
  clear hV
  go_wp2_with fail
  rw [HVV.out, HS.out]
  clear HVV
  go_loopw [8] (fun iv wr => ∃ k : Nat, k ≤ n ∧ iv = .int .i64 (k : Int) ∧ Hid (Below N w wr ∧ N + 2 ≤ wr.heap.size) ∧ Hid (Blk wr N 51 #[.int .i64 0, .int .i64 0, .int .i64 0, .int .i64 0, .int .i64 0, .int .i64 0, .int .i64 0, .int .i64 0, .int .i64 0, .int .i64 0, .int .i64 0, .int .i64 0, .int .i64 0, .int .i64 0, .int .i64 0, .int .i64 0]) ∧ Hid (Blk wr (N + 1) 51 (tc (l.take k)))) (fun iv _ => n - (intOf iv).toNat)
  case atStart => exact ⟨0, by omega, rfl, B0, R0, T0⟩
  case round =>
    clear B0 R0 T0
    obtain ⟨k, hk, rfl, HB, HZ, HT⟩ := hrel
    by_cases hlt : k < n
    · have hkl : k < l.length := by rw [HN.out]; exact hlt
      have hik : (k : Int) < (n : Int) := by omega
      have hik0 : (0 : Int) ≤ (k : Int) := by omega
      obtain ⟨b, off, rfl, _, c0⟩ := (HA.out.below (HS.out ▸ HB.out.1)) k hkl
      obtain ⟨x, hx⟩ : ∃ x : Nat, l[k] = (x : Int) := ⟨l[k].toNat, by have := HBn.out k hkl; omega⟩
      have hx15 : x ≤ 15 := by have := HBn.out k hkl; omega
      rw [hx] at c0
      have HTk := Lib.hid (show l.take (k + 1) = l.take k ++ [(x : Int)] by rw [List.take_succ_eq_append_getElem hkl, hx])
      have HC := Lib.hid (HCn.out k (x : Int))
      by_cases hx0 : x = 0
      · subst hx0
        have HT2 := Lib.hid (show Blk wr (N + 1) 51 (tc (l.take (k + 1))) by rw [HTk.out]; have := tc_same (l.take k); rw [show ((0 : Nat) : Int) = 0 from rfl, this]; exact HT.out)
        clear hx
        rw [show ((0 : Nat) : Int) = 0 from rfl] at c0
        go_wp2_with fail
        go_roundw
        case rel => exact ⟨k + 1, by omega, by go_num, HB, HZ, HT2⟩
        case measure => simp [intOf]; omega
      · have x1 : (0 : Int) < (x : Int) := by omega
        have x2 : (x : Int) < 16 := by omega
        have x3 : (0 : Int) ≤ (x : Int) := by omega
        obtain ⟨m, hm⟩ : ∃ m, cnt (l.take k) (x : Int) = m := ⟨_, rfl⟩
        have t0 : wr.cell? ⟨N + 1, x, none⟩ = some (.int .i64 (m : Int)) := by
          have e := (HT.out.cell x).trans (tc_at (l.take k) x (by omega))
          unfold tcell at e
          rw [if_neg hx0, hm] at e
          exact e
        have f0 := HT.out.frozen x
        have m1 : (m : Int) ≤ 1000000 := by have := HC.out; omega
        have m0 : (0 : Int) ≤ (m : Int) := by omega
        have HT2 := Lib.hid (show Blk (wr.setCell ⟨N + 1, x, none⟩ (.int .i64 ((m : Int) + 1))) (N + 1) 51 (tc (l.take (k + 1))) by
          rw [HTk.out, ← tc_more (l.take k) x (by omega) (by omega), hm]
          exact HT.out.set_ x _)
        have HZ2 := Lib.hid (show Blk (wr.setCell ⟨N + 1, x, none⟩ (.int .i64 ((m : Int) + 1))) N 51 #[.int .i64 0, .int .i64 0, .int .i64 0, .int .i64 0, .int .i64 0, .int .i64 0, .int .i64 0, .int .i64 0, .int .i64 0, .int .i64 0, .int .i64 0, .int .i64 0, .int .i64 0, .int .i64 0, .int .i64 0, .int .i64 0] from HZ.out.far (by show N ≠ N + 1; omega) _)
        have HB2 := Lib.hid (show Below N w (wr.setCell ⟨N + 1, x, none⟩ (.int .i64 ((m : Int) + 1))) ∧ N + 2 ≤ (wr.setCell ⟨N + 1, x, none⟩ (.int .i64 ((m : Int) + 1))).heap.size from ⟨HB.out.1.setCell (by show N ≤ N + 1; omega) _, by simpa [World.setCell] using HB.out.2⟩)
        clear hx hm hx0
        go_wp2_with fail
        go_roundw
        case rel => exact ⟨k + 1, by omega, by go_num, HB2, HZ2, HT2⟩
        case measure => simp [intOf]; omega
    · obtain rfl : k = n := by omega
      have HT1 := Lib.hid (show Blk wr (N + 1) 51 (tc l) by have := HT.out; rwa [List.take_of_length_le (by rw [HN.out]; exact Nat.le_refl _)] at this)
      clear HT
      have c0 := HT1.out.cell 0
      have c1 := HT1.out.cell 1
      have c2 := HT1.out.cell 2
      have c3 := HT1.out.cell 3
      have c4 := HT1.out.cell 4
      have c5 := HT1.out.cell 5
      have c6 := HT1.out.cell 6
      have c7 := HT1.out.cell 7
      have c8 := HT1.out.cell 8
      have c9 := HT1.out.cell 9
      have c10 := HT1.out.cell 10
      have c11 := HT1.out.cell 11
      have c12 := HT1.out.cell 12
      have c13 := HT1.out.cell 13
      have c14 := HT1.out.cell 14
      have c15 := HT1.out.cell 15
      have d0 := HZ.out.cell 0
      have d1 := HZ.out.cell 1
      have d2 := HZ.out.cell 2
      have d3 := HZ.out.cell 3
      have d4 := HZ.out.cell 4
      have d5 := HZ.out.cell 5
      have d6 := HZ.out.cell 6
      have d7 := HZ.out.cell 7
      have d8 := HZ.out.cell 8
      have d9 := HZ.out.cell 9
      have d10 := HZ.out.cell 10
      have d11 := HZ.out.cell 11
      have d12 := HZ.out.cell 12
      have d13 := HZ.out.cell 13
      have d14 := HZ.out.cell 14
      have d15 := HZ.out.cell 15
      have f0 := HZ.out.frozen 0
      have f1 := HZ.out.frozen 1
      have f2 := HZ.out.frozen 2
      have f3 := HZ.out.frozen 3
      have f4 := HZ.out.frozen 4
      have f5 := HZ.out.frozen 5
      have f6 := HZ.out.frozen 6
      have f7 := HZ.out.frozen 7
      have f8 := HZ.out.frozen 8
      have f9 := HZ.out.frozen 9
      have f10 := HZ.out.frozen 10
      have f11 := HZ.out.frozen 11
      have f12 := HZ.out.frozen 12
      have f13 := HZ.out.frozen 13
      have f14 := HZ.out.frozen 14
      have f15 := HZ.out.frozen 15
      unfold tc at c0 c1 c2 c3 c4 c5 c6 c7 c8 c9 c10 c11 c12 c13 c14 c15
      simp only [List.getElem?_toArray, List.getElem?_cons_zero, List.getElem?_cons_succ] at c0 c1 c2 c3 c4 c5 c6 c7 c8 c9 c10 c11 c12 c13 c14 c15 d0 d1 d2 d3 d4 d5 d6 d7 d8 d9 d10 d11 d12 d13 d14 d15
      rw [HT_0.out] at c0
      rw [HT_1.out] at c1
      rw [HT_2.out] at c2
      rw [HT_3.out] at c3
      rw [HT_4.out] at c4
      rw [HT_5.out] at c5
      rw [HT_6.out] at c6
      rw [HT_7.out] at c7
      rw [HT_8.out] at c8
      rw [HT_9.out] at c9
      rw [HT_10.out] at c10
      rw [HT_11.out] at c11
      rw [HT_12.out] at c12
      rw [HT_13.out] at c13
      rw [HT_14.out] at c14
      rw [HT_15.out] at c15
      go_wp2_with fail
      obtain ⟨W9, hW9⟩ : ∃ W, ((((((((((((((((wr).setCell ⟨N, 0, none⟩ (.int .i64 t0)).setCell ⟨N, 1, none⟩ (.int .i64 t1)).setCell ⟨N, 2, none⟩ (.int .i64 t2)).setCell ⟨N, 3, none⟩ (.int .i64 t3)).setCell ⟨N, 4, none⟩ (.int .i64 t4)).setCell ⟨N, 5, none⟩ (.int .i64 t5)).setCell ⟨N, 6, none⟩ (.int .i64 t6)).setCell ⟨N, 7, none⟩ (.int .i64 t7)).setCell ⟨N, 8, none⟩ (.int .i64 t8)).setCell ⟨N, 9, none⟩ (.int .i64 t9)).setCell ⟨N, 10, none⟩ (.int .i64 t10)).setCell ⟨N, 11, none⟩ (.int .i64 t11)).setCell ⟨N, 12, none⟩ (.int .i64 t12)).setCell ⟨N, 13, none⟩ (.int .i64 t13)).setCell ⟨N, 14, none⟩ (.int .i64 t14)).setCell ⟨N, 15, none⟩ (.int .i64 t15) = W := ⟨_, rfl⟩
      have HF := ((((((((((((((((HZ.out).set_ 0 (.int .i64 t0)).set_ 1 (.int .i64 t1)).set_ 2 (.int .i64 t2)).set_ 3 (.int .i64 t3)).set_ 4 (.int .i64 t4)).set_ 5 (.int .i64 t5)).set_ 6 (.int .i64 t6)).set_ 7 (.int .i64 t7)).set_ 8 (.int .i64 t8)).set_ 9 (.int .i64 t9)).set_ 10 (.int .i64 t10)).set_ 11 (.int .i64 t11)).set_ 12 (.int .i64 t12)).set_ 13 (.int .i64 t13)).set_ 14 (.int .i64 t14)).set_ 15 (.int .i64 t15)
      rw [hW9] at HF
      have HG : Below N w W9 := by rw [← hW9]; exact ((((((((((((((((HB.out.1).setCell (p := ⟨N, 0, none⟩) (Nat.le_refl _) (.int .i64 t0)).setCell (p := ⟨N, 1, none⟩) (Nat.le_refl _) (.int .i64 t1)).setCell (p := ⟨N, 2, none⟩) (Nat.le_refl _) (.int .i64 t2)).setCell (p := ⟨N, 3, none⟩) (Nat.le_refl _) (.int .i64 t3)).setCell (p := ⟨N, 4, none⟩) (Nat.le_refl _) (.int .i64 t4)).setCell (p := ⟨N, 5, none⟩) (Nat.le_refl _) (.int .i64 t5)).setCell (p := ⟨N, 6, none⟩) (Nat.le_refl _) (.int .i64 t6)).setCell (p := ⟨N, 7, none⟩) (Nat.le_refl _) (.int .i64 t7)).setCell (p := ⟨N, 8, none⟩) (Nat.le_refl _) (.int .i64 t8)).setCell (p := ⟨N, 9, none⟩) (Nat.le_refl _) (.int .i64 t9)).setCell (p := ⟨N, 10, none⟩) (Nat.le_refl _) (.int .i64 t10)).setCell (p := ⟨N, 11, none⟩) (Nat.le_refl _) (.int .i64 t11)).setCell (p := ⟨N, 12, none⟩) (Nat.le_refl _) (.int .i64 t12)).setCell (p := ⟨N, 13, none⟩) (Nat.le_refl _) (.int .i64 t13)).setCell (p := ⟨N, 14, none⟩) (Nat.le_refl _) (.int .i64 t14)).setCell (p := ⟨N, 15, none⟩) (Nat.le_refl _) (.int .i64 t15)
      rw [hW9]
      clear hW9 c0 c1 c2 c3 c4 c5 c6 c7 c8 c9 c10 c11 c12 c13 c14 c15 d0 d1 d2 d3 d4 d5 d6 d7 d8 d9 d10 d11 d12 d13 d14 d15 f0 f1 f2 f3 f4 f5 f6 f7 f8 f9 f10 f11 f12 f13 f14 f15
      have e0 : W9.cell? ⟨N, 0, none⟩ = some (.int .i64 t0) := (HF.cell 0).trans (by kernel_rfl)
      have e1 : W9.cell? ⟨N, 1, none⟩ = some (.int .i64 t1) := (HF.cell 1).trans (by kernel_rfl)
      have e2 : W9.cell? ⟨N, 2, none⟩ = some (.int .i64 t2) := (HF.cell 2).trans (by kernel_rfl)
      have e3 : W9.cell? ⟨N, 3, none⟩ = some (.int .i64 t3) := (HF.cell 3).trans (by kernel_rfl)
      have e4 : W9.cell? ⟨N, 4, none⟩ = some (.int .i64 t4) := (HF.cell 4).trans (by kernel_rfl)
      have e5 : W9.cell? ⟨N, 5, none⟩ = some (.int .i64 t5) := (HF.cell 5).trans (by kernel_rfl)
      have e6 : W9.cell? ⟨N, 6, none⟩ = some (.int .i64 t6) := (HF.cell 6).trans (by kernel_rfl)
      have e7 : W9.cell? ⟨N, 7, none⟩ = some (.int .i64 t7) := (HF.cell 7).trans (by kernel_rfl)
      have e8 : W9.cell? ⟨N, 8, none⟩ = some (.int .i64 t8) := (HF.cell 8).trans (by kernel_rfl)
      have e9 : W9.cell? ⟨N, 9, none⟩ = some (.int .i64 t9) := (HF.cell 9).trans (by kernel_rfl)
      have e10 : W9.cell? ⟨N, 10, none⟩ = some (.int .i64 t10) := (HF.cell 10).trans (by kernel_rfl)
      have e11 : W9.cell? ⟨N, 11, none⟩ = some (.int .i64 t11) := (HF.cell 11).trans (by kernel_rfl)
      have e12 : W9.cell? ⟨N, 12, none⟩ = some (.int .i64 t12) := (HF.cell 12).trans (by kernel_rfl)
      have e13 : W9.cell? ⟨N, 13, none⟩ = some (.int .i64 t13) := (HF.cell 13).trans (by kernel_rfl)
      have e14 : W9.cell? ⟨N, 14, none⟩ = some (.int .i64 t14) := (HF.cell 14).trans (by kernel_rfl)
      have e15 : W9.cell? ⟨N, 15, none⟩ = some (.int .i64 t15) := (HF.cell 15).trans (by kernel_rfl)
      clear HF
      refine bodyPost_ret (v := .agg #[.int .i64 t0, .int .i64 t1, .int .i64 t2, .int .i64 t3, .int .i64 t4, .int .i64 t5, .int .i64 t6, .int .i64 t7, .int .i64 t8, .int .i64 t9, .int .i64 t10, .int .i64 t11, .int .i64 t12, .int .i64 t13, .int .i64 t14, .int .i64 t15]) (by simp [results, Try.results29, go_sem, e0, e1, e2, e3, e4, e5, e6, e7, e8, e9, e10, e11, e12, e13, e14, e15]) rfl ⟨rfl, HG⟩
end Go.Proofs.Ytbgechfmbogbpaa
