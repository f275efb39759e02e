/-
  slices' insertion sort on a short row of numbers.
-/
import Derived.Test.YtbgechfmbogbpaaCodK
import Derived.Test.YtbgechfmbogbpaaBitB
namespace Go.Proofs.Ytbgechfmbogbpaa
open Go.RowKit Cod

theorem cmp_lt (x y : Int) : (decide (cmpI x y < 0)) = decide (x < y) := by
  unfold cmpI
  by_cases h1 : x < y
  · simp [h1]
  · by_cases h2 : y < x <;> simp [h1, h2]

set_option maxRecDepth 100000 in
set_option maxHeartbeats 4000000 in
theorem insert_ints (R C q : Nat) (l : List Int) (key : Int → Int) (okd : Int → Prop) (w : World) (h : Seg w R 3 C (iC l)) (cap : Nat) (_hcap : C = cap) (hl : 0 < l.length) (hl2 : l.length ≤ 1000) (hok : ∀ x ∈ l, okd x)
    (HC : ∀ W : World, w.grownBy W (some R) → ∀ a b : Int, okd a → okd b → Calls Try.prog 49 #[.int .i64 a, .int .i64 b, .pointer (some ⟨q, 0, none⟩)] W fun e w' => e = .returned (.int .i64 (cmpI (key a) (key b))) ∧ ∃ m, w' = W.drewN m) :
    Calls Try.prog 68 #[.slice (some ⟨R, 0, none⟩) l.length cap, .int .i64 0, .int .i64 (l.length : Int), .func (.func 49) #[] #[.pointer (some ⟨q, 0, none⟩)]] w
      fun e w' => e = .returned (.tuple #[]) ∧ Seg w' R 3 C (iC (insS 0 (fun a b => decide (key a < key b)) l)) ∧ w.grownBy w' (some R) := by
  obtain ⟨lt, hlt⟩ : ∃ lt : Int → Int → Bool, (fun a b => decide (key a < key b)) = lt := ⟨_, rfl⟩
  have HLT := Lib.hid (show ∀ a b, lt a b = decide (key a < key b) from fun a b => by rw [← hlt])
  rw [hlt]
  clear hlt
  have HLEN := Lib.hid (fun k => insK_len 0 lt l k)
  have HALL := Lib.hid (fun k hk => insK_all 0 lt l hok k hk)
  obtain ⟨n, hn⟩ : ∃ n, l.length = n := ⟨_, rfl⟩
  have HS := Lib.hid (show insS 0 lt l = insK 0 lt l (n - 1) by unfold insS; rw [hn])
  rw [HS.out]
  have HS0 := Lib.hid (show Seg w R 3 C (iC (insK 0 lt l 0)) from h)
  have HCC := Lib.hid HC
  have HG0 := Lib.hid (show w.grownBy w (some R) from World.grownBy.refl _ _)
  rw [hn] at HLEN HALL hl hl2 ⊢
  have hnb : (n : Int) ≤ 1000 := by omega
  have hnp : (0 : Int) < (n : Int) := by omega
  clear h HC hok hn _hcap
  go_enter Try.func68, Try.ntmps68
  go_wp2_with fail
  go_loopw [8] (fun iv wr => ∃ k : Nat, 1 ≤ k ∧ k ≤ n ∧ iv = .int .i64 (k : Int) ∧ Hid (Seg wr R 3 C (iC (insK 0 lt l (k - 1)))) ∧ Hid (w.grownBy wr (some R))) (fun iv _ => n - (intOf iv).toNat)
  case atStart => exact ⟨1, by omega, by omega, rfl, HS0, HG0⟩
  case round =>
    clear HS0 HG0
    obtain ⟨k, hk1, hk, rfl, HSg, HG⟩ := hrel
    by_cases hlt : k < n
    · have hik : (k : Int) < (n : Int) := by omega
      have hik0 : (0 : Int) ≤ (k : Int) := by omega
      obtain ⟨m0, hm0⟩ : ∃ m0, insK 0 lt l (k - 1) = m0 := ⟨_, rfl⟩
      have HT0 := Lib.hid (show sink 0 lt m0 k = insK 0 lt l k ∧ m0.length = n ∧ ∀ x ∈ m0, okd x from by
        rw [← hm0]
        refine ⟨?_, HLEN.out _, HALL.out _ (by omega)⟩
        obtain ⟨j, rfl⟩ : ∃ j, k = j + 1 := ⟨k - 1, by omega⟩
        rfl)
      rw [hm0] at HSg
      clear hm0
      go_wp2_with fail
      obtain ⟨wo, hwo⟩ : ∃ wo, wo = wr := ⟨_, rfl⟩
      clear hwo
      go_loopw [9] (fun jv wr => ∃ (j : Nat) (m : List Int), j ≤ k ∧ jv = .int .i64 (j : Int) ∧ Hid (Seg wr R 3 C (iC m)) ∧ Hid (w.grownBy wr (some R)) ∧ Hid (sink 0 lt m j = insK 0 lt l k ∧ m.length = n ∧ ∀ x ∈ m, okd x)) (fun jv _ => (intOf jv).toNat)
      case atStart => exact ⟨k, m0, by omega, rfl, HSg, HG, HT0⟩
      case round =>
        clear HSg HG HT0
        obtain ⟨j, m, hj, rfl, HSg, HG, HT⟩ := hrel
        obtain ⟨hT1, hT2, hT3⟩ := HT.out
        by_cases hj0 : j = 0
        · subst hj0
          have HE := Lib.hid (show Seg wr R 3 C (iC (insK 0 lt l k)) by rw [← hT1]; exact HSg.out)
          have dj : decide ((0 : Int) < ((0 : Nat) : Int)) = false := rfl
          clear hT1 hT2 hT3
          rw [show ((0 : Nat) : Int) = 0 from rfl] at dj
          rw [show ((0 : Nat) : Int) = 0 from rfl]
          go_wp2_with fail
          go_quiet (fail)
          go_wp2_with fail
          go_roundw
          case rel => exact ⟨k + 1, by omega, by omega, by go_num, Lib.hid HE.out, Lib.hid (grown_drewN HG.out _)⟩
          case measure => simp [intOf]; omega
        · obtain ⟨i, rfl⟩ : ∃ i, j = i + 1 := ⟨j - 1, by omega⟩
          have hi1 : i + 1 < m.length := by omega
          have c1 := HSg.out.cell (i + 1) (by rw [iC_len]; exact hi1)
          rw [iC_get m (i + 1) hi1] at c1
          have c0 := HSg.out.cell i (by rw [iC_len]; omega)
          rw [iC_get m i (by omega)] at c0
          have f0 := HSg.out.frozen i
          have f1 := HSg.out.frozen (i + 1)
          have okb := all_getD hT3 0 hi1
          have oka := all_getD hT3 0 (show i < m.length by omega)
          have hT4 : (if lt (m.getD (i + 1) 0) (m.getD i 0) then sink 0 lt ((m.set (i + 1) (m.getD i 0)).set i (m.getD (i + 1) 0)) i else m) = insK 0 lt l k := hT1
          rw [HLT.out] at hT4
          obtain ⟨b, hb⟩ : ∃ b, m.getD (i + 1) 0 = b := ⟨_, rfl⟩
          obtain ⟨a, ha⟩ : ∃ a, m.getD i 0 = a := ⟨_, rfl⟩
          rw [hb] at c1 okb hT4
          rw [ha] at c0 oka hT4
          have HCl := Lib.hid (fun (W : World) (hg : w.grownBy W (some R)) => HCC.out W hg b a okb oka)
          have hcl := cmp_lt (key b) (key a)
          obtain ⟨z, hz⟩ : ∃ z, cmpI (key b) (key a) = z := ⟨_, rfl⟩
          rw [hz] at HCl hcl
          have hji : (0 : Int) < (i : Int) + 1 := by omega
          have hjn : (i : Int) + 1 < (n : Int) := by omega
          have hji0 : (0 : Int) ≤ (i : Int) := by omega
          rw [show ((i + 1 : Nat) : Int) = (i : Int) + 1 by push_cast; rfl]
          by_cases hlt2 : key b < key a
          · rw [decide_eq_true hlt2] at hT4 hcl
            rw [if_pos rfl] at hT4
            have hz0 : z < 0 := of_decide_eq_true hcl
            have HK := Lib.hid (show sink 0 lt ((m.set (i + 1) a).set i b) i = insK 0 lt l k ∧ ((m.set (i + 1) a).set i b).length = n ∧ ∀ x ∈ (m.set (i + 1) a).set i b, okd x from ⟨hT4, by simpa using hT2, all_set (all_set hT3 oka _) okb _⟩)
            have HS2 := Lib.hid (show Seg ((wr.setCell ⟨R, i + 1, none⟩ (.int .i64 a)).setCell ⟨R, i, none⟩ (.int .i64 b)) R 3 C (iC ((m.set (i + 1) a).set i b)) by
              rw [← iC_set, ← iC_set]
              exact (HSg.out.set_ (i + 1) _).set_ i _)
            have HG2 := Lib.hid (grown_set (grown_set HG.out (i + 1) (.int .i64 a)) i (.int .i64 b))
            clear hT1 hT2 hT3 hT4 hb ha hcl hlt2 hz okb oka
            go_wp2_with fail
            go_quiet ((go_at_call 49; exact Calls.quiet_of (HCl.out _ (grown_drewN HG.out _))))
            go_wp2_with fail
            go_region
            go_wp2_with fail
            go_roundw
            case rel => exact ⟨i, _, by omega, rfl, Lib.hid HS2.out, Lib.hid ⟨HG2.out.os, HG2.out.tape, HG2.out.output, HG2.out.size, HG2.out.block⟩, HK⟩
            case measure => simp [intOf]
          · rw [decide_eq_false hlt2] at hT4 hcl
            rw [if_neg (by decide)] at hT4
            have hz0 : ¬ z < 0 := of_decide_eq_false hcl
            have HE := Lib.hid (show Seg wr R 3 C (iC (insK 0 lt l k)) by rw [← hT4]; exact HSg.out)
            clear hT1 hT2 hT3 hT4 hb ha hcl hlt2 hz okb oka
            go_wp2_with fail
            go_quiet ((go_at_call 49; exact Calls.quiet_of (HCl.out _ (grown_drewN HG.out _))))
            go_wp2_with fail
            go_roundw
            case rel => exact ⟨k + 1, by omega, by omega, by go_num, Lib.hid HE.out, Lib.hid (grown_drewN HG.out _)⟩
            case measure => simp [intOf]; omega
    · obtain rfl : k = n := by omega
      have HE := HSg
      clear HSg
      go_wp2_with fail
      go_end0
      exact ⟨rfl, HE.out, HG.out⟩
end Go.Proofs.Ytbgechfmbogbpaa
