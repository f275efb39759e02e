/-
  The document's Same; code's Cost.
-/
import Derived.Test.YtbgechfmbogbpaaCodD
import Derived.Test.YtbgechfmbogbpaaCodMc
import Derived.Deep.QuietTactic
import Derived.BigQuiet
namespace Go.Proofs.Ytbgechfmbogbpaa
open Go.RowKit Cod

theorem take_eq_step {l m : List Int} {k : Nat} (h1 : k < l.length) (h2 : k < m.length) (h : l.take k = m.take k) (e : l[k] = m[k]) : l.take (k + 1) = m.take (k + 1) := by
  rw [List.take_succ_eq_append_getElem h1, List.take_succ_eq_append_getElem h2, h, e]

set_option maxRecDepth 100000 in
set_option maxHeartbeats 4000000 in
theorem same_any (A B : Option Addr) (ca cb : Nat) (l m : List Int) (w : World) (hA : IAt w A l) (hB : IAt w B m) (hl : l.length ≤ 1000000) (hm : m.length ≤ 1000000) :
    Calls Try.prog 12 #[.slice A l.length ca, .slice B m.length cb] w fun e w' => e = .returned (.bool (decide (l = m))) ∧ Below w.heap.size w w' := by
  obtain ⟨z, hz⟩ : ∃ z, decide (l = m) = z := ⟨_, rfl⟩
  have HZ := Lib.hid hz
  rw [hz]
  obtain ⟨p, hp⟩ : ∃ p, l.length = p := ⟨_, rfl⟩
  obtain ⟨q, hq⟩ : ∃ q, m.length = q := ⟨_, rfl⟩
  have HP := Lib.hid hp
  have HQ := Lib.hid hq
  have HA := Lib.hid hA
  have HB := Lib.hid hB
  rw [hp, hq]
  rw [hp] at hl
  rw [hq] at hm
  clear hz hp hq hA hB
  by_cases hpq : p = q
  · subst hpq
    have hpb : (p : Int) ≤ 1000000 := by omega
    go_enter Try.func12, Try.ntmps12
    go_wp2_with fail
    go_loopw [5] (fun iv wr => ∃ k : Nat, k ≤ p ∧ iv = .int .i64 (k : Int) ∧ Hid (l.take k = m.take k) ∧ Hid (Below w.heap.size w wr)) (fun iv _ => p - (intOf iv).toNat)
    case atStart => exact ⟨0, by omega, rfl, Lib.hid rfl, Lib.hid (Below.refl _ _)⟩
    case round =>
      obtain ⟨k, hk, rfl, HT, HW⟩ := hrel
      by_cases hlt : k < p
      · have hkl : k < l.length := by rw [HP.out]; exact hlt
        have hkm : k < m.length := by rw [HQ.out]; exact hlt
        have hik : (k : Int) < (p : Int) := by omega
        have hik0 : (0 : Int) ≤ (k : Int) := by omega
        obtain ⟨b1, o1, rfl, _, c0⟩ := (HA.out.below HW.out) k hkl
        obtain ⟨b2, o2, rfl, _, c1⟩ := (HB.out.below HW.out) k hkm
        by_cases he : l[k] = m[k]
        · have HN := Lib.hid (take_eq_step hkl hkm HT.out he)
          obtain ⟨x, hx⟩ : ∃ x, l[k] = x := ⟨_, rfl⟩
          rw [← he] at c1
          rw [hx] at c0 c1
          clear hx he
          go_wp2_with fail
          go_quiet (fail)
          go_wp2_with fail
          go_roundw
          case rel => exact ⟨k + 1, by omega, by go_num, HN, Lib.hid (below_drewN HW.out _)⟩
          case measure => simp [intOf]; omega
        · have HF := Lib.hid (show z = false by
            rw [← HZ.out]
            exact decide_eq_false (fun e => he (by subst e; rfl)))
          obtain ⟨x, hx⟩ : ∃ x, l[k] = x := ⟨_, rfl⟩
          obtain ⟨y, hy⟩ : ∃ y, m[k] = y := ⟨_, rfl⟩
          rw [hx] at c0
          rw [hy] at c1
          have hne : ¬ x = y := by rw [← hx, ← hy]; exact he
          clear hx hy he
          go_wp2_with fail
          go_quiet (fail)
          go_wp2_with fail
          go_ret
          exact ⟨by rw [HF.out]; rfl, below_drewN HW.out _⟩
      · obtain rfl : k = p := by omega
        have HT1 := Lib.hid (show z = true by
          rw [← HZ.out]
          have := HT.out
          rw [List.take_of_length_le (by rw [HP.out]; exact Nat.le_refl _), List.take_of_length_le (by rw [HQ.out]; exact Nat.le_refl _)] at this
          exact decide_eq_true this)
        go_wp2_with fail
        go_ret
        exact ⟨by rw [HT1.out]; rfl, HW.out⟩
  · have hpq' : ¬ (p : Int) = (q : Int) := by omega
    have HF := Lib.hid (show z = false by
      rw [← HZ.out]
      exact decide_eq_false (fun e => hpq (by rw [← HP.out, ← HQ.out, e])))
    go_enter Try.func12, Try.ntmps12
    go_wp2_with fail
    go_ret
    exact ⟨by rw [HF.out]; rfl, Below.refl _ _⟩

/-- What a symbol costs. -/
def costAt (x y : Int) : Int := if okN 15 x && okN 2147483647 y then x * y else 0
def costK (l m : List Int) : Nat → Int
  | 0 => 0
  | k + 1 => costK l m k + costAt (l.getD k 0) (m.getD k 0)
theorem costAt_le (x y : Int) : 0 ≤ costAt x y ∧ costAt x y ≤ 32212254705 := by
  unfold costAt
  by_cases h : (okN 15 x && okN 2147483647 y) = true
  · rw [if_pos h]
    unfold okN at h
    simp only [Bool.and_eq_true, decide_eq_true_eq] at h
    obtain ⟨⟨h1, h2⟩, h3, h4⟩ := h
    refine ⟨Int.mul_nonneg h1 h3, ?_⟩
    have := Int.mul_le_mul h2 h4 h3 (by decide)
    omega
  · rw [if_neg h]; decide
theorem costK_le (l m : List Int) : ∀ k : Nat, 0 ≤ costK l m k ∧ costK l m k ≤ (k : Int) * 32212254705
  | 0 => by simp [costK]
  | k + 1 => by
    have h1 := costK_le l m k
    have h2 := costAt_le (l.getD k 0) (m.getD k 0)
    simp only [costK]
    push_cast
    omega

set_option maxRecDepth 100000 in
set_option maxHeartbeats 4000000 in
theorem cost_any (A B : Option Addr) (ca cb : Nat) (l m : List Int) (w : World) (hA : IAt w A l) (hB : IAt w B m) (hl : l.length ≤ 1000000) (hm : m.length ≤ 1000000) :
    Calls Try.prog 15 #[.slice A l.length ca, .slice B m.length cb] w fun e w' => e = .returned (.int .i64 (costK l m (min l.length m.length))) ∧ Below w.heap.size w w' := by
  have HU1 := Lib.hid (fun (x : Int) (W : World) => upTo_any x 15 W)
  have HU2 := Lib.hid (fun (x : Int) (W : World) => upTo_any x 2147483647 W)
  obtain ⟨n, hn⟩ : ∃ n, min l.length m.length = n := ⟨_, rfl⟩
  have HNl := Lib.hid (show n ≤ l.length by omega)
  have HNm := Lib.hid (show n ≤ m.length by omega)
  have hnb : n ≤ 1000000 := by omega
  have HCB := Lib.hid (costK_le l m)
  have HKS := Lib.hid (show ∀ k : Nat, costK l m (k + 1) = costK l m k + costAt (l.getD k 0) (m.getD k 0) from fun k => rfl)
  rw [hn]
  obtain ⟨p, hp⟩ : ∃ p, l.length = p := ⟨_, rfl⟩
  obtain ⟨q, hq⟩ : ∃ q, m.length = q := ⟨_, rfl⟩
  rw [hp, hq]
  have hmin : min (p : Int) (q : Int) = (n : Int) := by omega
  have HA := Lib.hid hA
  have HB := Lib.hid hB
  have HPQ := Lib.hid (show n ≤ p ∧ n ≤ q ∧ (n = p ∨ n = q) by omega)
  clear hn hp hq hA hB hl hm
  have hnI : (n : Int) ≤ 1000000 := by omega
  rcases Nat.lt_or_ge q p with hpq | hpq
  · have hpn : n = q := by have := HPQ.out; omega
    subst hpn
    have hpq' : (n : Int) < (p : Int) := by omega
    have hpq2 : ¬ (p : Int) ≤ (n : Int) := by omega
    have hpq3 : ¬ (p : Int) < (n : Int) := by omega
    have hpq4 : (n : Int) ≤ (p : Int) := by omega
    clear HPQ hmin
    go_enter Try.func15, Try.ntmps15
    go_wp2_with fail
    go_loopw [5, 13] (fun sv iv wr => ∃ k : Nat, k ≤ n ∧ sv = .int .i64 (costK l m k) ∧ iv = .int .i64 (k : Int) ∧ Hid (Below w.heap.size w wr)) (fun _ iv _ => n - (intOf iv).toNat)
    case atStart => exact ⟨0, by omega, rfl, rfl, Lib.hid (Below.refl _ _)⟩
    case round =>
      obtain ⟨k, hk, rfl, rfl, HW⟩ := hrel
      by_cases hlt : k < n
      · have hkl : k < l.length := Nat.lt_of_lt_of_le hlt HNl.out
        have hkm : k < m.length := Nat.lt_of_lt_of_le hlt HNm.out
        have hik : (k : Int) < (n : Int) := by omega
        have hikO : (k : Int) < (p : Int) := by omega
        have hik0 : (0 : Int) ≤ (k : Int) := by omega
        obtain ⟨b1, o1, rfl, _, c0⟩ := (HA.out.below HW.out) k hkl
        obtain ⟨b2, o2, rfl, _, c1⟩ := (HB.out.below HW.out) k hkm
        have HS := Lib.hid (HKS.out k)
        rw [gd l hkl, gd m hkm] at HS
        have hcb := HCB.out k
        obtain ⟨x, hx⟩ : ∃ x, l[k] = x := ⟨_, rfl⟩
        obtain ⟨y, hy⟩ : ∃ y, m[k] = y := ⟨_, rfl⟩
        obtain ⟨c, hc⟩ : ∃ c, costK l m k = c := ⟨_, rfl⟩
        rw [hx, hy, hc] at HS
        rw [hx] at c0
        rw [hy] at c1
        rw [hc] at hcb ⊢
        have hU1 : okN 15 x = (decide (0 ≤ x) && decide (x ≤ 15)) := rfl
        have hU2 : okN 2147483647 y = (decide (0 ≤ y) && decide (y ≤ 2147483647)) := rfl
        have HUx := Lib.hid (HU1.out x)
        have HUy := Lib.hid (HU2.out y)
        rw [← hU1] at HUx
        rw [← hU2] at HUy
        have hct := costAt_le x y
        have hcat : costAt x y = if okN 15 x && okN 2147483647 y then x * y else 0 := rfl
        have hc1 : c ≤ 40000000000000000 := by omega
        clear hx hy hc
        by_cases h1 : okN 15 x = true
        · rw [h1] at HUx hcat
          by_cases h2 : okN 2147483647 y = true
          · rw [h2] at HUy hcat
            have hcy : costAt x y = x * y := hcat
            obtain ⟨t, ht⟩ : ∃ t, x * y = t := ⟨_, rfl⟩
            rw [hcy, ht] at HS hct
            have HTW := Lib.hid (show wrap64 (x * y) = t by rw [ht]; exact w64 _ (by omega))
            have HE := Lib.hid (show min c (9223372036854775807 - t) + t = c + t by omega)
            have ht1 : ¬ (9223372036854775807 : Int) - t < c := by omega
            have ht2 : c ≤ (9223372036854775807 : Int) - t := by omega
            have hc0 : 0 ≤ c := by omega
            have ht0 : 0 ≤ t := by omega
            have ht3 : t ≤ 32212254705 := by omega
            clear hcat hU1 hU2 h1 h2 hcy ht hct hcb HE
            go_wp2_with fail
            refine (HUx.out _).mono ?_
            rintro e w1 ⟨rfl, rfl⟩
            go_wp2_with fail
            refine (HUy.out _).mono ?_
            rintro e w1 ⟨rfl, rfl⟩
            go_wp2_with fail
            go_quiet (fail)
            go_wp2_with (rw [HTW.out])
            go_roundw
            case rel => exact ⟨k + 1, by omega, by rw [HS.out], by go_num, Lib.hid (below_drewN HW.out _)⟩
            case measure => simp [intOf]; omega
          · have h2' : okN 2147483647 y = false := by simpa using h2
            rw [h2'] at HUy hcat
            have hcy : costAt x y = 0 := hcat
            rw [hcy, Int.add_zero] at HS
            clear hcat hU1 hU2 h1 h2 h2' hcy hct hcb
            go_wp2_with fail
            refine (HUx.out _).mono ?_
            rintro e w1 ⟨rfl, rfl⟩
            go_wp2_with fail
            refine (HUy.out _).mono ?_
            rintro e w1 ⟨rfl, rfl⟩
            go_wp2_with fail
            go_roundw
            case rel => exact ⟨k + 1, by omega, by rw [HS.out], by go_num, HW⟩
            case measure => simp [intOf]; omega
        · have h1' : okN 15 x = false := by simpa using h1
          rw [h1'] at HUx hcat
          have hcy : costAt x y = 0 := hcat
          rw [hcy, Int.add_zero] at HS
          clear hcat hU1 hU2 h1 h1' hcy hct hcb
          go_wp2_with fail
          refine (HUx.out _).mono ?_
          rintro e w1 ⟨rfl, rfl⟩
          go_wp2_with fail
          go_roundw
          case rel => exact ⟨k + 1, by omega, by rw [HS.out], by go_num, HW⟩
          case measure => simp [intOf]; omega
      · obtain rfl : k = n := by omega
        go_wp2_with fail
        go_ret
        exact ⟨rfl, HW.out⟩
  · have hpn : n = p := by have := HPQ.out; omega
    subst hpn
    have hpq' : (n : Int) ≤ (q : Int) := by omega
    have hpq2 : ¬ (q : Int) < (n : Int) := by omega
    clear HPQ hmin
    go_enter Try.func15, Try.ntmps15
    go_wp2_with fail
    go_loopw [5, 13] (fun sv iv wr => ∃ k : Nat, k ≤ n ∧ sv = .int .i64 (costK l m k) ∧ iv = .int .i64 (k : Int) ∧ Hid (Below w.heap.size w wr)) (fun _ iv _ => n - (intOf iv).toNat)
    case atStart => exact ⟨0, by omega, rfl, rfl, Lib.hid (Below.refl _ _)⟩
    case round =>
      obtain ⟨k, hk, rfl, rfl, HW⟩ := hrel
      by_cases hlt : k < n
      · have hkl : k < l.length := Nat.lt_of_lt_of_le hlt HNl.out
        have hkm : k < m.length := Nat.lt_of_lt_of_le hlt HNm.out
        have hik : (k : Int) < (n : Int) := by omega
        have hikO : (k : Int) < (q : Int) := by omega
        have hik0 : (0 : Int) ≤ (k : Int) := by omega
        obtain ⟨b1, o1, rfl, _, c0⟩ := (HA.out.below HW.out) k hkl
        obtain ⟨b2, o2, rfl, _, c1⟩ := (HB.out.below HW.out) k hkm
        have HS := Lib.hid (HKS.out k)
        rw [gd l hkl, gd m hkm] at HS
        have hcb := HCB.out k
        obtain ⟨x, hx⟩ : ∃ x, l[k] = x := ⟨_, rfl⟩
        obtain ⟨y, hy⟩ : ∃ y, m[k] = y := ⟨_, rfl⟩
        obtain ⟨c, hc⟩ : ∃ c, costK l m k = c := ⟨_, rfl⟩
        rw [hx, hy, hc] at HS
        rw [hx] at c0
        rw [hy] at c1
        rw [hc] at hcb ⊢
        have hU1 : okN 15 x = (decide (0 ≤ x) && decide (x ≤ 15)) := rfl
        have hU2 : okN 2147483647 y = (decide (0 ≤ y) && decide (y ≤ 2147483647)) := rfl
        have HUx := Lib.hid (HU1.out x)
        have HUy := Lib.hid (HU2.out y)
        rw [← hU1] at HUx
        rw [← hU2] at HUy
        have hct := costAt_le x y
        have hcat : costAt x y = if okN 15 x && okN 2147483647 y then x * y else 0 := rfl
        have hc1 : c ≤ 40000000000000000 := by omega
        clear hx hy hc
        by_cases h1 : okN 15 x = true
        · rw [h1] at HUx hcat
          by_cases h2 : okN 2147483647 y = true
          · rw [h2] at HUy hcat
            have hcy : costAt x y = x * y := hcat
            obtain ⟨t, ht⟩ : ∃ t, x * y = t := ⟨_, rfl⟩
            rw [hcy, ht] at HS hct
            have HTW := Lib.hid (show wrap64 (x * y) = t by rw [ht]; exact w64 _ (by omega))
            have HE := Lib.hid (show min c (9223372036854775807 - t) + t = c + t by omega)
            have ht1 : ¬ (9223372036854775807 : Int) - t < c := by omega
            have ht2 : c ≤ (9223372036854775807 : Int) - t := by omega
            have hc0 : 0 ≤ c := by omega
            have ht0 : 0 ≤ t := by omega
            have ht3 : t ≤ 32212254705 := by omega
            clear hcat hU1 hU2 h1 h2 hcy ht hct hcb HE
            go_wp2_with fail
            refine (HUx.out _).mono ?_
            rintro e w1 ⟨rfl, rfl⟩
            go_wp2_with fail
            refine (HUy.out _).mono ?_
            rintro e w1 ⟨rfl, rfl⟩
            go_wp2_with fail
            go_quiet (fail)
            go_wp2_with (rw [HTW.out])
            go_roundw
            case rel => exact ⟨k + 1, by omega, by rw [HS.out], by go_num, Lib.hid (below_drewN HW.out _)⟩
            case measure => simp [intOf]; omega
          · have h2' : okN 2147483647 y = false := by simpa using h2
            rw [h2'] at HUy hcat
            have hcy : costAt x y = 0 := hcat
            rw [hcy, Int.add_zero] at HS
            clear hcat hU1 hU2 h1 h2 h2' hcy hct hcb
            go_wp2_with fail
            refine (HUx.out _).mono ?_
            rintro e w1 ⟨rfl, rfl⟩
            go_wp2_with fail
            refine (HUy.out _).mono ?_
            rintro e w1 ⟨rfl, rfl⟩
            go_wp2_with fail
            go_roundw
            case rel => exact ⟨k + 1, by omega, by rw [HS.out], by go_num, HW⟩
            case measure => simp [intOf]; omega
        · have h1' : okN 15 x = false := by simpa using h1
          rw [h1'] at HUx hcat
          have hcy : costAt x y = 0 := hcat
          rw [hcy, Int.add_zero] at HS
          clear hcat hU1 hU2 h1 h1' hcy hct hcb
          go_wp2_with fail
          refine (HUx.out _).mono ?_
          rintro e w1 ⟨rfl, rfl⟩
          go_wp2_with fail
          go_roundw
          case rel => exact ⟨k + 1, by omega, by rw [HS.out], by go_num, HW⟩
          case measure => simp [intOf]; omega
      · obtain rfl : k = n := by omega
        go_wp2_with fail
        go_ret
        exact ⟨rfl, HW.out⟩
end Go.Proofs.Ytbgechfmbogbpaa
