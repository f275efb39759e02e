/-
  code, the document's: bits, used, Check.
-/
import Derived.Test.YtbgechfmbogbpaaCodF
import Derived.Test.YtbgechfmbogbpaaCodMe
namespace Go.Proofs.Ytbgechfmbogbpaa
open Go.RowKit Bt Cod

set_option maxRecDepth 100000 in
theorem bits10 (n : Nat) (hn : n ≤ 15) (w : World) : Calls Try.prog 36 #[.int .i64 (n : Int)] w fun e w' => e = .returned (.int .i64 ((2 ^ n : Nat) : Int)) ∧ w = w' := by
  have : n = 0 ∨ n = 1 ∨ n = 2 ∨ n = 3 ∨ n = 4 ∨ n = 5 ∨ n = 6 ∨ n = 7 ∨ n = 8 ∨ n = 9 ∨ n = 10 ∨ n = 11 ∨ n = 12 ∨ n = 13 ∨ n = 14 ∨ n = 15 := by omega
  rcases this with rfl | rfl | rfl | rfl | rfl | rfl | rfl | rfl | rfl | rfl | rfl | rfl | rfl | rfl | rfl | rfl <;>
    (go_enter Try.func36, Try.ntmps36
     go_wp2_with fail
     go_ret
     exact ⟨rfl, rfl⟩)

set_option maxRecDepth 100000 in
set_option maxHeartbeats 4000000 in
theorem used10 (A : Option Addr) (cap : Nat) (l : List Int) (w : World) (h : IAt w A l) (hr : rangeOk l = true) (hl : l.length ≤ 1000000) :
    Calls Try.prog 37 #[.slice A l.length cap] w fun e w' => e = .returned (.int .i64 (used l : Int)) ∧ w = w' := by
  have HA := Lib.hid h
  have HR := Lib.hid (fun k hk => range_at hr k hk)
  have HU := Lib.hid (show ∀ k (h : k < l.length), used (l.take (k + 1)) = used (l.take k) + if 0 < l[k] then 1 else 0 from fun k h => by rw [take_snoc l h, used_snoc])
  have HUL := Lib.hid (show ∀ k, used (l.take k) ≤ 1000000 from fun k => Nat.le_trans List.countP_le_length (Nat.le_trans (by rw [List.length_take]; omega) hl))
  have HE := Lib.hid (show used (l.take l.length) = used l by rw [List.take_length])
  obtain ⟨n, hn⟩ : ∃ n, l.length = n := ⟨_, rfl⟩
  have HN := Lib.hid hn
  rw [hn] at HE ⊢
  have hnb : (n : Int) ≤ 1000000 := by omega
  clear h hr hl hn
  go_enter Try.func37, Try.ntmps37
  go_wp2_with fail
  go_loopw [3, 4] (fun sv iv wr => ∃ k : Nat, k ≤ n ∧ sv = .int .i64 (used (l.take k) : Int) ∧ iv = .int .i64 (k : Int) ∧ Hid (w = wr)) (fun _ iv _ => n - (intOf iv).toNat)
  case atStart => exact ⟨0, by omega, rfl, rfl, Lib.hid rfl⟩
  case round =>
    obtain ⟨k, hk, rfl, rfl, HW⟩ := hrel
    by_cases hlt : k < n
    · have hkl : k < l.length := by rw [HN.out]; exact hlt
      have hik : (k : Int) < (n : Int) := by omega
      have hik0 : (0 : Int) ≤ (k : Int) := by omega
      obtain ⟨b, off, rfl, _, c0⟩ := HA.out k hkl
      rw [HW.out] at c0
      have HS := Lib.hid (HU.out k hkl)
      have hx01 := HR.out k hkl
      obtain ⟨x, hx⟩ : ∃ x, l[k] = x := ⟨_, rfl⟩
      rw [hx] at c0 HS hx01
      obtain ⟨u, hu⟩ : ∃ u, used (l.take k) = u := ⟨_, rfl⟩
      have hub := HUL.out k
      rw [hu] at HS hub ⊢
      have hu1 : (u : Int) ≤ 1000000 := by omega
      have hu0 : (0 : Int) ≤ (u : Int) := by omega
      clear hx hu
      by_cases h0 : x = 0
      · subst h0
        rw [if_neg (by decide), Nat.add_zero] at HS
        clear hx01
        go_wp2_with fail
        go_roundw
        case rel => exact ⟨k + 1, by omega, by rw [HS.out] <;> rfl, by go_num, HW⟩
        case measure => simp [intOf]; omega
      · rw [if_pos (show 0 < x by omega)] at HS
        have h0' : ¬ x = 0 := h0
        go_wp2_with fail
        go_roundw
        case rel => exact ⟨k + 1, by omega, by rw [HS.out]; push_cast; go_num, by go_num, HW⟩
        case measure => simp [intOf]; omega
    · obtain rfl : k = n := by omega
      go_wp2_with fail
      go_ret
      exact ⟨by rw [HE.out] <;> rfl, HW.out⟩

set_option maxRecDepth 100000 in
set_option maxHeartbeats 8000000 in
theorem check10 (A : Option Addr) (cap : Nat) (l : List Int) (w : World) (h : IAt w A l) (hl : l.length ≤ 1000000) :
    Calls Try.prog 14 #[.slice A l.length cap] w fun e w' => e = .returned (.int .i64 (chkE l)) ∧ w = w' := by
  have HA := Lib.hid h
  have HC6 := Lib.hid (show 288 < l.length → chkE l = 6 from fun h => by unfold chkE; rw [if_pos h])
  have HC1 := Lib.hid (show ¬ 288 < l.length → rangeOk l = false → chkE l = 1 from fun h h1 => by unfold chkE; rw [if_neg h, if_pos h1])
  have HC0 := Lib.hid (show ¬ 288 < l.length → rangeOk l = true → chkE l = if validL l = false then 13 else 0 from fun h h1 => by unfold chkE; rw [if_neg h, if_neg (by rw [h1]; decide)])
  obtain ⟨z, hz⟩ : ∃ z, chkE l = z := ⟨_, rfl⟩
  rw [hz] at HC6 HC1 HC0 ⊢
  obtain ⟨n, hn⟩ : ∃ n, l.length = n := ⟨_, rfl⟩
  have HN := Lib.hid hn
  by_cases hbig : 288 < n
  · have hbI : (288 : Int) < (n : Int) := by omega
    have HZ := Lib.hid (HC6.out (by rw [hn]; exact hbig))
    rw [hn]
    clear HC6 HC1 HC0 h hl hz hn
    go_enter Try.func14, Try.ntmps14
    go_wp2_with fail
    go_ret
    exact ⟨by rw [HZ.out] <;> rfl, rfl⟩
  · have hnb : (n : Int) ≤ 288 := by omega
    have HC1 := Lib.hid (HC1.out (by rw [hn]; exact hbig))
    have HC0 := Lib.hid (HC0.out (by rw [hn]; exact hbig))
    have HB := Lib.hid (fun m hm (W : World) => bits10 m hm W)
    have HUs := Lib.hid (fun hr => used10 A cap l w h hr hl)
    have HV := Lib.hid (fun hr => valid_ref l hr)
    have HRL := Lib.hid (show ∀ k, room (l.take k) ≤ 10000000 from fun k => by
      have h1 := room_le (l.take k)
      have h2 : (l.take k).length ≤ n := by rw [List.length_take, hn]; omega
      omega)
    have HML := Lib.hid (show ∀ k, rangeOk (l.take k) = true → 0 ≤ mxI (l.take k) ∧ mxI (l.take k) ≤ 15 from fun k hk => ⟨mxI_nonneg _, mxI_le _ hk⟩)
    have HE := Lib.hid (show l.take n = l by rw [← hn, List.take_length])
    rw [hn] at HUs ⊢
    clear HC6 h hl hz hn hbig
    go_enter Try.func14, Try.ntmps14
    go_wp2_with fail
    go_loopw [3, 4, 5] (fun sv mv iv wr => ∃ k : Nat, k ≤ n ∧ sv = .int .i64 (room (l.take k) : Int) ∧ mv = .int .i64 (mxI (l.take k)) ∧ iv = .int .i64 (k : Int) ∧ Hid (w = wr ∧ rangeOk (l.take k) = true)) (fun _ _ iv _ => n - (intOf iv).toNat)
    case atStart => exact ⟨0, by omega, rfl, rfl, rfl, Lib.hid ⟨rfl, rfl⟩⟩
    case round =>
      obtain ⟨k, hk, rfl, rfl, rfl, HW⟩ := hrel
      have hrl := HRL.out k
      have hml := HML.out k HW.out.2
      by_cases hlt : k < n
      · have hkl : k < l.length := by rw [HN.out]; exact hlt
        have hik : (k : Int) < (n : Int) := by omega
        have hik0 : (0 : Int) ≤ (k : Int) := by omega
        obtain ⟨b, off, rfl, _, c0⟩ := HA.out k hkl
        rw [HW.out.1] at c0
        have HBad := Lib.hid (show (l[k] < 0 ∨ 15 < l[k]) → z = 1 from fun h => HC1.out (by
          rw [Bool.eq_false_iff]
          intro hr
          have := range_at hr k hkl
          omega))
        have HOk := Lib.hid (show 0 ≤ l[k] → l[k] ≤ 15 → rangeOk (l.take (k + 1)) = true from fun h1 h2 => by
          have hr := HW.out.2
          unfold rangeOk at hr ⊢
          rw [take_snoc l hkl, List.all_append, hr]
          simp [h1, h2])
        have HS := Lib.hid (show room (l.take (k + 1)) = room (l.take k) + if 0 < l[k] then 2 ^ (15 - l[k].toNat) else 0 by rw [take_snoc l hkl, room_snoc])
        have HM := Lib.hid (show mxI (l.take (k + 1)) = max (mxI (l.take k)) l[k] by rw [take_snoc l hkl, mxI_snoc])
        obtain ⟨x, hx⟩ : ∃ x, l[k] = x := ⟨_, rfl⟩
        rw [hx] at c0 HS HM HBad HOk
        obtain ⟨q, hq⟩ : ∃ q, room (l.take k) = q := ⟨_, rfl⟩
        obtain ⟨m, hm⟩ : ∃ m, mxI (l.take k) = m := ⟨_, rfl⟩
        rw [hq] at HS hrl ⊢
        rw [hm] at HM hml ⊢
        obtain ⟨hm0, hm15⟩ := hml
        have hqI : (q : Int) ≤ 10000000 := by omega
        have hq0 : (0 : Int) ≤ (q : Int) := by omega
        clear hx hq hm hrl
        by_cases h0 : x < 0
        · have HZ := Lib.hid (HBad.out (Or.inl h0))
          go_wp2_with fail
          go_ret
          exact ⟨by rw [HZ.out] <;> rfl, HW.out.1⟩
        · by_cases h15 : 15 < x
          · have HZ := Lib.hid (HBad.out (Or.inr h15))
            go_wp2_with fail
            go_ret
            exact ⟨by rw [HZ.out] <;> rfl, HW.out.1⟩
          · have HO := Lib.hid (HOk.out (by omega) (by omega))
            obtain ⟨y, rfl⟩ : ∃ y : Nat, x = (y : Int) := ⟨x.toNat, by omega⟩
            have hy15 : (y : Int) ≤ 15 := by omega
            by_cases hy : y = 0
            · subst hy
              rw [if_neg (by decide), Nat.add_zero] at HS
              have HM2 := Lib.hid (show mxI (l.take (k + 1)) = m by rw [HM.out]; omega)
              clear HM h0 h15 HBad HOk
              rw [show ((0 : Nat) : Int) = 0 from rfl] at c0
              go_wp2_with fail
              go_roundw
              case rel => exact ⟨k + 1, by omega, by rw [HS.out] <;> rfl, by rw [HM2.out] <;> rfl, by go_num, Lib.hid ⟨HW.out.1, HO.out⟩⟩
              case measure => simp [intOf]; omega
            · have hy0 : (0 : Int) < (y : Int) := by omega
              rw [if_pos hy0, Int.toNat_natCast] at HS
              have HBt := Lib.hid (fun W : World => by
                have := HB.out (15 - y) (by omega) W
                rw [show ((15 - y : Nat) : Int) = 15 - (y : Int) by omega] at this
                exact this)
              have hp2 : 2 ^ (15 - y) ≤ 32768 := Nat.le_trans (Nat.pow_le_pow_right (by decide) (show 15 - y ≤ 15 by omega)) (by decide)
              obtain ⟨p, hp⟩ : ∃ p, 2 ^ (15 - y) = p := ⟨_, rfl⟩
              rw [hp] at HBt HS hp2
              have hpI : (p : Int) ≤ 32768 := by omega
              have hp0 : (0 : Int) ≤ (p : Int) := by omega
              clear hp hp2 h0 h15 HBad HOk hy
              go_wp2_with fail
              refine (HBt.out _).mono ?_
              rintro e w1 ⟨rfl, rfl⟩
              go_wp2_with fail
              go_roundw
              case rel => exact ⟨k + 1, by omega, by rw [HS.out]; push_cast; go_num, by rw [HM.out]; congr 1; split <;> omega, by go_num, Lib.hid ⟨HW.out.1, HO.out⟩⟩
              case measure => simp [intOf]; omega
      · obtain rfl : k = n := by omega
        have hr := HW.out.2
        rw [HE.out] at hr hrl hml ⊢
        have HZ := Lib.hid (HC0.out hr)
        rw [HV.out hr] at HZ
        have HU := Lib.hid (HUs.out hr)
        obtain ⟨q, hq⟩ : ∃ q, room l = q := ⟨_, rfl⟩
        obtain ⟨m, hm⟩ : ∃ m, mxI l = m := ⟨_, rfl⟩
        obtain ⟨u, hu⟩ : ∃ u, used l = u := ⟨_, rfl⟩
        rw [hq] at HZ hrl ⊢
        rw [hm] at HZ hml ⊢
        rw [hu] at HZ HU
        have HB15 := Lib.hid (fun W : World => HB.out 15 (by decide) W)
        have HWW := Lib.hid HW.out.1
        clear hq hm hu hr HW HUs HC1 HC0 HV HE HB HRL HML
        rw [HWW.out] at HU
        by_cases h1 : q = 32768
        · subst h1
          have HZ0 := Lib.hid (show z = 0 by rw [HZ.out]; rfl)
          go_wp2_with fail
          refine (HB15.out _).mono ?_
          rintro e w1 ⟨rfl, rfl⟩
          go_wp2_with fail
          go_ret
          exact ⟨by rw [HZ0.out] <;> rfl, HWW.out⟩
        · have h1I : ¬ (q : Int) = 32768 := by omega
          have b1 : ((q : Int) == 32768) = false := by simpa using h1I
          by_cases h2 : q = 0
          · subst h2
            have HZ0 := Lib.hid (show z = 0 by rw [HZ.out]; rfl)
            go_wp2_with fail
            refine (HB15.out _).mono ?_
            rintro e w1 ⟨rfl, rfl⟩
            go_wp2_with fail
            go_ret
            exact ⟨by rw [HZ0.out] <;> rfl, HWW.out⟩
          · have h2I : ¬ (q : Int) = 0 := by omega
            have b2 : ((q : Int) == 0) = false := by simpa using h2I
            have HZ0 := Lib.hid (show z = if (decide (u = 1) && decide (m = 1)) = false then 13 else 0 by rw [HZ.out, decide_eq_false h1, decide_eq_false h2]; rfl)
            by_cases h3 : u = 1
            · subst h3
              by_cases h4 : m = 1
              · subst h4
                go_wp2_with fail
                refine (HB15.out _).mono ?_
                rintro e w1 ⟨rfl, rfl⟩
                go_wp2_with fail
                refine HU.out.mono ?_
                rintro e w1 ⟨rfl, rfl⟩
                go_wp2_with fail
                go_ret
                exact ⟨by rw [HZ0.out] <;> rfl, HWW.out⟩
              · have HZ1 := Lib.hid (show z = 13 by rw [HZ0.out, decide_eq_false h4]; rfl)
                have b4 : (m == 1) = false := by simpa using h4
                go_wp2_with fail
                refine (HB15.out _).mono ?_
                rintro e w1 ⟨rfl, rfl⟩
                go_wp2_with fail
                refine HU.out.mono ?_
                rintro e w1 ⟨rfl, rfl⟩
                go_wp2_with fail
                go_ret
                exact ⟨by rw [HZ1.out] <;> rfl, HWW.out⟩
            · have h3I : ¬ (u : Int) = 1 := by omega
              have b3 : ((u : Int) == 1) = false := by simpa using h3I
              have HZ1 := Lib.hid (show z = 13 by rw [HZ0.out, decide_eq_false h3]; rfl)
              go_wp2_with fail
              refine (HB15.out _).mono ?_
              rintro e w1 ⟨rfl, rfl⟩
              go_wp2_with fail
              refine HU.out.mono ?_
              rintro e w1 ⟨rfl, rfl⟩
              go_wp2_with fail
              go_ret
              exact ⟨by rw [HZ1.out] <;> rfl, HWW.out⟩
end Go.Proofs.Ytbgechfmbogbpaa
