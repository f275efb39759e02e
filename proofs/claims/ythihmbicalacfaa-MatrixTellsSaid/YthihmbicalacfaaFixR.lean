/-
  The reference: Dot.
-/
import Derived.Test.YthihmbicalacfaaFixQ
namespace Go.Proofs.Ythihmbicalacfaa
open Go.RowKit Fix

set_option maxHeartbeats 4000000 in
theorem dotR_ok (a : Option Addr) (cap : Nat) (xs : List Int) (w : World) (hbad : dotBad xs = false) (hlen : xs.length ≤ 8) (heven : xs.length % 2 = 0) (hc : ReadsInts w a xs) :
    Calls Try.prog 39 #[.slice a xs.length cap] w fun e w' => e = .returned (.tuple #[.int .i64 (dotN xs), .int .i64 (dotE xs)]) ∧ ∃ k, w' = w.drewN k := by
  have HC := Lib.hid hc
  have HBAD := Lib.hid hbad
  clear hc hbad
  have h1 : (xs.length : Int).tmod 2 = 0 := by rw [Int.tmod_eq_emod_of_nonneg (by omega)]; omega
  have h1e : (xs.length : Int) % 2 = 0 := by omega
  have h2 : ¬ (8 : Int) < (xs.length : Int) := by omega
  go_enter Try.func39, Try.ntmps39
  go_wp2
  go_loopw [4, 5] (fun v i wr => ∃ (k : Nat) (s : Int), k ≤ xs.length / 2 ∧ v = .int .i64 s ∧ i = .int .i64 (2 * (k : Int)) ∧ Hid (s = dotK xs k ∧ pairsIn xs k) ∧ Hid (-(1152921504606846976 * (k : Int)) ≤ s ∧ s ≤ 1152921504606846976 * k) ∧ ∃ d, wr = w.drewN d) (fun _ i _ => xs.length - (intOf i).toNat)
  case atStart => exact ⟨0, 0, by omega, rfl, rfl, Lib.hid ⟨rfl, fun j h => by omega⟩, Lib.hid ⟨by omega, by omega⟩, 0, rfl⟩
  case round =>
    obtain ⟨k, s, hk, rfl, rfl, hinv, hbd, hwr⟩ := hrel
    have HC' : Hid (ReadsInts wr a xs) := Lib.hid (by obtain ⟨d, rfl⟩ := hwr; intro j hj; obtain ⟨b, off, ha, hv⟩ := HC.out j hj; exact ⟨b, off, ha, by simpa using hv⟩)
    have HW := Lib.hid hwr
    clear HC hwr
    by_cases hlt : k < xs.length / 2
    · obtain ⟨b, off, rfl, hcell⟩ := HC'.out (2 * k) (by omega)
      obtain ⟨b', off', he', hcell'⟩ := HC'.out (2 * k + 1) (by omega)
      cases he'
      have h2k1 : IntKind.i64.wrap (2 * (k : Int) + 1) = 2 * (k : Int) + 1 := IntWalk.i64_in _ (by omega)
      have h2k2 : IntKind.i64.wrap (2 * (k : Int) + 2) = 2 * (k : Int) + 2 := IntWalk.i64_in _ (by omega)
      have g0 : 0 ≤ 2 * (k : Int) := by omega
      have g1 : 2 * (k : Int) < (xs.length : Int) := by omega
      have g2 : (2 * (k : Int)).toNat = 2 * k := by omega
      have g3 : 0 ≤ 2 * (k : Int) + 1 := by omega
      have g4 : 2 * (k : Int) + 1 < (xs.length : Int) := by omega
      have g5 : (2 * (k : Int) + 1).toNat = 2 * k + 1 := by omega
      by_cases hx : inRange xs[2 * k] = true
      · by_cases hy : inRange xs[2 * k + 1] = true
        · have hx2 := inRange_yes hx
          have hy2 := inRange_yes hy
          have hm := mul_bounds hx2.1 hx2.2 hy2.1 hy2.2
          have hw : IntKind.i64.wrap (xs[2 * k] * xs[2 * k + 1]) = xs[2 * k] * xs[2 * k + 1] := IntWalk.i64_in _ (by omega)
          have hw2 : IntKind.i64.wrap (s + xs[2 * k] * xs[2 * k + 1]) = s + xs[2 * k] * xs[2 * k + 1] := IntWalk.i64_in _ (by have := hbd.out; omega)
          have HX := Lib.hid (And.intro hx (And.intro hy (And.intro hx2 (And.intro hy2 hm))))
          clear hx hy hx2 hy2 hm
          go_wp2_with fail
          refine (withinR_yes _ _ HX.out.1).mono ?_
          rintro e w' ⟨rfl, rfl⟩
          go_wp2_with fail
          refine (withinR_yes _ _ HX.out.2.1).mono ?_
          rintro e w' ⟨rfl, rfl⟩
          go_wp2_with fail
          go_quiet (fail)
          go_wp2
          go_roundw
          case rel =>
            refine ⟨k + 1, s + xs[2 * k] * xs[2 * k + 1], by omega, rfl, ?_, Lib.hid ⟨?_, ?_⟩, Lib.hid (by have := hbd.out; have := HX.out.2.2.2.2; omega), ?_⟩
            · first | rfl | (congr 1; push_cast; omega)
            · rw [hinv.out.1]
              show _ = dotK xs k + xs.getD (2 * k) 0 * xs.getD (2 * k + 1) 0
              rw [getD_at xs (2 * k) (by omega), getD_at xs (2 * k + 1) (by omega)]
            · exact pairs_more xs k hinv.out.2 (by omega) HX.out.1 HX.out.2.1
            · obtain ⟨d, hd⟩ := HW.out
              exact ⟨_, by rw [hd, World.drewN_drewN]⟩
          case measure => simp [intOf]; omega
        · have HX := Lib.hid hx
          have HB := Lib.hid hy
          have he := Lib.hid (dotE_bad xs HBAD.out (all_not xs (2 * k + 1) (by omega) hy))
          clear hx hy
          go_wp2_with fail
          refine (withinR_yes _ _ HX.out).mono ?_
          rintro e w' ⟨rfl, rfl⟩
          go_wp2_with fail
          refine (withinR_no _ _ HB.out).mono ?_
          rintro e w' ⟨rfl, rfl⟩
          go_wp2
          go_ret2
          exact ⟨ret_twoI he.out, HW.out⟩
      · have HB := Lib.hid hx
        have he := Lib.hid (dotE_bad xs HBAD.out (all_not xs (2 * k) (by omega) hx))
        clear hx
        go_wp2_with fail
        refine (withinR_no _ _ HB.out).mono ?_
        rintro e w' ⟨rfl, rfl⟩
        go_wp2
        go_ret2
        exact ⟨ret_twoI he.out, HW.out⟩
    · obtain rfl : k = xs.length / 2 := by omega
      have hall := all_of_pairs xs (xs.length / 2) (by omega) hinv.out.2
      have hs := hinv.out.1
      have hdiv := div_bounds (n := s) (by have := hbd.out; omega) (by have := hbd.out; omega)
      have HN : Hid (∀ W : World, Calls Try.prog 61 #[.int .i64 s, .int .i64 10000] W fun e w' => e = .returned (.int .i64 (nearS s 10000)) ∧ W = w') := Lib.hid fun W => nearR_any _ _ _ (by decide) (by decide) hdiv
      have ge : 2 * ((xs.length / 2 : Nat) : Int) = (xs.length : Int) := by omega
      have gw : IntKind.i64.wrap ((xs.length : Int) + 1) = (xs.length : Int) + 1 := IntWalk.i64_in _ (by omega)
      rw [ge]
      by_cases hr : inRange (nearS s 10000) = true
      · have he := Lib.hid (dotE_ok xs s HBAD.out hall hs hr)
        have HS := Lib.hid hr
        clear hall hs hdiv hr hbd hinv ge
        go_wp2_with fail
        refine (HN.out _).mono ?_
        rintro e w' ⟨rfl, rfl⟩
        go_wp2_with fail
        refine (toldR_yes _ _ HS.out).mono ?_
        rintro e w' ⟨rfl, rfl⟩
        go_wp2
        go_ret2
        exact ⟨ret_twoI he.out, HW.out⟩
      · have he := Lib.hid (dotE_big xs s HBAD.out hs hr)
        have HB := Lib.hid hr
        clear hall hs hdiv hr hbd hinv ge
        go_wp2_with fail
        refine (HN.out _).mono ?_
        rintro e w' ⟨rfl, rfl⟩
        go_wp2_with fail
        refine (toldR_no _ _ HB.out).mono ?_
        rintro e w' ⟨rfl, rfl⟩
        go_wp2
        go_ret2
        exact ⟨ret_twoI he.out, HW.out⟩

theorem dotR_any (a : Option Addr) (cap : Nat) (xs : List Int) (w : World) (hlen : xs.length ≤ 1000000) (hc : ReadsInts w a xs) :
    Calls Try.prog 39 #[.slice a xs.length cap] w fun e w' => e = .returned (.tuple #[.int .i64 (dotN xs), .int .i64 (dotE xs)]) ∧ ∃ k, w' = w.drewN k := by
  by_cases hb : dotBad xs = true
  · have e1 : dotN xs = 0 := by unfold dotN; rw [if_pos hb]
    have e2 : dotE xs = 1 := by unfold dotE; rw [if_pos hb]
    rw [e1, e2]
    unfold dotBad at hb
    by_cases ho : xs.length % 2 = 1
    · exact (dotR_odd a cap _ w hlen ho).mono fun _ _ ⟨h1, h2⟩ => ⟨h1, 0, h2⟩
    · exact (dotR_many a cap _ w hlen (by omega) (by simp at hb; omega)).mono fun _ _ ⟨h1, h2⟩ => ⟨h1, 0, h2⟩
  · have hb' : xs.length % 2 = 0 ∧ xs.length ≤ 8 := by unfold dotBad at hb; simp at hb; omega
    exact dotR_ok a cap xs w (Bool.eq_false_iff.2 hb) hb'.2 hb'.1 hc
end Go.Proofs.Ythihmbicalacfaa
