/-
  code's valid: a tally, whether its codes leave no room.
-/
import Derived.Test.YtbgechfmbogbpaaCodA
import Derived.Test.YtbgechfmbogbpaaCodMb
namespace Go.Proofs.Ytbgechfmbogbpaa
open Go.RowKit Cod

theorem w64 (n : Int) (h : -9223372036854775808 ≤ n ∧ n ≤ 9223372036854775807) : wrap64 n = n := by unfold wrap64; omega
/-- Sixteen numbers. -/
def ag (t : Nat → Int) : Array Value := #[.int .i64 (t 0), .int .i64 (t 1), .int .i64 (t 2), .int .i64 (t 3), .int .i64 (t 4), .int .i64 (t 5), .int .i64 (t 6), .int .i64 (t 7), .int .i64 (t 8), .int .i64 (t 9), .int .i64 (t 10), .int .i64 (t 11), .int .i64 (t 12), .int .i64 (t 13), .int .i64 (t 14), .int .i64 (t 15)]
/-- The tallies of the lengths. -/
def tv (l : List Int) (n : Nat) : Int := (tl l n : Int)
theorem tcell_eq (l : List Int) (k : Nat) : tcell l k = .int .i64 (tl l k : Int) := by
  unfold tcell tl
  by_cases h : k = 0
  · rw [if_pos h, if_pos h]; rfl
  · rw [if_neg h, if_neg h]
theorem tc_ag (l : List Int) : tc l = ag (tv l) := by
  unfold tc ag tv
  simp only [tcell_eq]
theorem ag_at (t : Nat → Int) (n : Nat) (h : n < 16) : (ag t)[n]? = some (.int .i64 (t n)) := by
  have : n = 0 ∨ n = 1 ∨ n = 2 ∨ n = 3 ∨ n = 4 ∨ n = 5 ∨ n = 6 ∨ n = 7 ∨ n = 8 ∨ n = 9 ∨ n = 10 ∨ n = 11 ∨ n = 12 ∨ n = 13 ∨ n = 14 ∨ n = 15 := by omega
  rcases this with rfl | rfl | rfl | rfl | rfl | rfl | rfl | rfl | rfl | rfl | rfl | rfl | rfl | rfl | rfl | rfl <;> rfl
theorem ag_index (t : Nat → Int) (k : Nat) (hk : k < 16) (w : World) : (Instr.index 51 (.agg #[.int .i64 (t 0), .int .i64 (t 1), .int .i64 (t 2), .int .i64 (t 3), .int .i64 (t 4), .int .i64 (t 5), .int .i64 (t 6), .int .i64 (t 7), .int .i64 (t 8), .int .i64 (t 9), .int .i64 (t 10), .int .i64 (t 11), .int .i64 (t 12), .int .i64 (t 13), .int .i64 (t 14), .int .i64 (t 15)]) (.int .i64 (k : Int))).run Try.prog w = .ok (.int .i64 (t k)) w := by
  have h1 : (0 : Int) ≤ (k : Int) ∧ (k : Int) < 16 := ⟨by omega, by omega⟩
  have h3 : ¬ 16 ≤ k := by omega
  have h2 := ag_at t k hk
  unfold ag at h2
  simp only [List.getElem?_toArray] at h2
  simp [Instr.index, asIntOf, go_sem, h1]
  rw [if_pos hk, h2]
  rfl

set_option maxRecDepth 100000 in
set_option maxHeartbeats 4000000 in
theorem valid_any (l : List Int) (w : World) (hr : rangeOk l = true) (hl : l.length ≤ 1000000) :
    Calls Try.prog 35 #[.agg (tc l)] w fun e w' => e = .returned (.bool (validL l)) ∧ Below w.heap.size w w' := by
  rw [validL_K l hr, tc_ag]
  obtain ⟨z, hz⟩ : ∃ z, (decide (roomK l 16 = 32768) || decide (totK l 16 = 0) || (decide (totK l 16 = 1) && decide (tl l 1 = 1))) = z := ⟨_, rfl⟩
  have HZ := Lib.hid hz
  rw [hz]
  clear hz
  have h1 : (tl l 1 : Int) = tv l 1 := rfl
  have HT := Lib.hid (show ∀ n, tv l n = (tl l n : Int) from fun n => rfl)
  obtain ⟨t, ht⟩ : ∃ t, tv l = t := ⟨_, rfl⟩
  rw [ht] at HT ⊢
  clear ht h1
  unfold ag
  have HL := Lib.hid (fun k => tl_le l k)
  have HT1 := Lib.hid (fun k => totK_le l hl k)
  have HR1 := Lib.hid (fun k => roomK_le l hl k)
  have HLL := Lib.hid hl
  obtain ⟨N, hN⟩ : ∃ N, w.heap.size = N := ⟨_, rfl⟩
  have HS := Lib.hid hN
  obtain ⟨V, hV⟩ : ∃ V, w.alloc (.cells #[.int .i64 (t 0), .int .i64 (t 1), .int .i64 (t 2), .int .i64 (t 3), .int .i64 (t 4), .int .i64 (t 5), .int .i64 (t 6), .int .i64 (t 7), .int .i64 (t 8), .int .i64 (t 9), .int .i64 (t 10), .int .i64 (t 11), .int .i64 (t 12), .int .i64 (t 13), .int .i64 (t 14), .int .i64 (t 15)] 51) = V := ⟨_, rfl⟩
  have HVV := Lib.hid hV
  have B0 := Lib.hid (show Below N w V ∧ N + 1 ≤ V.heap.size from ⟨by rw [← hV, ← hN]; exact (Below.refl _ w).alloc (Nat.le_refl _) _, by rw [← hV, World.size_alloc, hN]; exact Nat.le_refl _⟩)
  have T0 := Lib.hid (show Blk V N 51 #[.int .i64 (t 0), .int .i64 (t 1), .int .i64 (t 2), .int .i64 (t 3), .int .i64 (t 4), .int .i64 (t 5), .int .i64 (t 6), .int .i64 (t 7), .int .i64 (t 8), .int .i64 (t 9), .int .i64 (t 10), .int .i64 (t 11), .int .i64 (t 12), .int .i64 (t 13), .int .i64 (t 14), .int .i64 (t 15)] by rw [← hV, ← hN]; exact Blk.new w _ _)
  rw [hN]
  clear hr hl hV hN
  go_enter Try.func35, Try.ntmps35
  go_wp2_with fail
  rw [HVV.out, HS.out]
  clear HVV
  go_loopw [3, 4, 8] (fun tv rv iv wr => ∃ k : Nat, k ≤ 16 ∧ tv = .int .i64 (totK l k : Int) ∧ rv = .int .i64 (32768 - (roomK l k : Int)) ∧ iv = .int .i64 (k : Int) ∧ wr = V) (fun _ _ iv _ => 16 - (intOf iv).toNat)
  case atStart => exact ⟨0, by omega, rfl, rfl, rfl, rfl⟩
  case round =>
    obtain ⟨k, hk, rfl, rfl, rfl, rfl⟩ := hrel
    by_cases hlt : k < 16
    · have hik : (k : Int) < 16 := by omega
      have hik0 : (0 : Int) ≤ (k : Int) := by omega
      obtain ⟨a, ha⟩ : ∃ a : Nat, totK l k = a := ⟨_, rfl⟩
      obtain ⟨b, hb⟩ : ∃ b : Nat, roomK l k = b := ⟨_, rfl⟩
      obtain ⟨c, hc⟩ : ∃ c : Nat, tl l k = c := ⟨_, rfl⟩
      obtain ⟨p, hp⟩ : ∃ p : Nat, c * 2 ^ (15 - k) = p := ⟨_, rfl⟩
      have ha1 : (a : Int) ≤ 16000000 := by have := HT1.out k; omega
      have hb1 : (b : Int) ≤ 524288000000 := by have := HR1.out k; omega
      have hc1 : (c : Int) ≤ 1000000 := by have := HL.out k; have := HLL.out; omega
      have hp1 : (p : Int) ≤ 524288000000 := by have := HR1.out (k + 1); simp only [roomK, hc, hp] at this; omega
      have ha0 : (0 : Int) ≤ (a : Int) := by omega
      have hb0 : (0 : Int) ≤ (b : Int) := by omega
      have hc0 : (0 : Int) ≤ (c : Int) := by omega
      have hp0 : (0 : Int) ≤ (p : Int) := by omega
      have HTS := Lib.hid (show (totK l (k + 1) : Int) = (a : Int) + (c : Int) by rw [totK_succ, ha, hc]; push_cast; rfl)
      have HRS := Lib.hid (show (32768 - (roomK l (k + 1) : Int)) = 32768 - (b : Int) - (p : Int) by simp only [roomK]; rw [hb, hc, hp]; push_cast; omega)
      have HI := Lib.hid (fun W : World => (by have := ag_index t k hlt W; rwa [HT.out k, hc] at this : (Instr.index 51 (.agg #[.int .i64 (t 0), .int .i64 (t 1), .int .i64 (t 2), .int .i64 (t 3), .int .i64 (t 4), .int .i64 (t 5), .int .i64 (t 6), .int .i64 (t 7), .int .i64 (t 8), .int .i64 (t 9), .int .i64 (t 10), .int .i64 (t 11), .int .i64 (t 12), .int .i64 (t 13), .int .i64 (t 14), .int .i64 (t 15)]) (.int .i64 (k : Int))).run Try.prog W = .ok (.int .i64 (c : Int)) W))
      have HPW := Lib.hid (show wrap64 ((c : Int) * 2 ^ (15 - k)) = (p : Int) by
        have e2 : (c : Int) * 2 ^ (15 - k) = (p : Int) := by rw [← hp]; push_cast; rfl
        rw [e2]
        exact w64 _ (by omega))
      rw [ha, hb]
      clear ha hb hc hp
      go_wp2_with (simp only [HI.out])
      go_roundw
      case rel => exact ⟨k + 1, by omega, by rw [HTS.out], by rw [HRS.out, HPW.out, w64 _ (by omega)], by go_num, trivial⟩
      case measure => simp [intOf]; omega
    · obtain rfl : k = 16 := by omega
      obtain ⟨a, ha⟩ : ∃ a : Nat, totK l 16 = a := ⟨_, rfl⟩
      obtain ⟨b, hb⟩ : ∃ b : Nat, roomK l 16 = b := ⟨_, rfl⟩
      have c1 := T0.out.cell 1
      simp only [List.getElem?_toArray, List.getElem?_cons_zero, List.getElem?_cons_succ] at c1
      rw [HT.out 1] at c1
      obtain ⟨c, hc⟩ : ∃ c : Nat, tl l 1 = c := ⟨_, rfl⟩
      rw [hc] at c1
      have ha1 : (a : Int) ≤ 16000000 := by have := HT1.out 16; omega
      have hb1 : (b : Int) ≤ 524288000000 := by have := HR1.out 16; omega
      have hz := HZ.out
      rw [ha, hb, hc] at hz
      rw [ha, hb]
      have HF := Lib.hid (fun (x : Bool) (h : x = (decide (b = 32768) || decide (a = 0) || decide (a = 1) && decide (c = 1))) => (congrArg (fun y => Ending.returned (Value.bool y)) (h.trans hz) : Ending.returned (Value.bool x) = Ending.returned (Value.bool z)))
      clear ha hb hc hz HZ
      by_cases h1 : b = 32768
      · have h1' : (32768 : Int) - (b : Int) = 0 := by omega
        subst h1
        go_wp2_with fail
        go_ret
        exact ⟨HF.out _ (by first | (simp; done) | (simp; omega)), B0.out.1⟩
      · have h1' : ¬ (32768 : Int) - (b : Int) = 0 := by omega
        have hx : decide (b = 32768) = false := decide_eq_false h1
        rw [hx] at HF
        clear hx h1
        by_cases h2 : a = 0
        · subst h2
          go_wp2_with fail
          go_ret
          exact ⟨HF.out _ (by first | (simp; done) | (simp; omega)), B0.out.1⟩
        · have h2' : ¬ (a : Int) = 0 := by omega
          have hx : decide (a = 0) = false := decide_eq_false h2
          rw [hx] at HF
          clear hx h2
          by_cases h3 : a = 1
          · subst h3
            clear h2'
            by_cases h4 : c = 1
            · subst h4
              go_wp2_with fail
              go_ret
              exact ⟨HF.out _ (by first | (simp; done) | (simp; omega)), B0.out.1⟩
            · have h4' : ¬ (c : Int) = 1 := by omega
              have hx : decide (c = 1) = false := decide_eq_false h4
              rw [hx] at HF
              clear hx h4
              go_wp2_with fail
              go_ret
              exact ⟨HF.out _ (by first | (simp; done) | (simp; omega)), B0.out.1⟩
          · have h3' : ¬ (a : Int) = 1 := by omega
            have hx : decide (a = 1) = false := decide_eq_false h3
            rw [hx] at HF
            clear hx h3
            go_wp2_with fail
            go_ret
            exact ⟨HF.out _ (by first | (simp; done) | (simp; omega)), B0.out.1⟩
end Go.Proofs.Ytbgechfmbogbpaa
