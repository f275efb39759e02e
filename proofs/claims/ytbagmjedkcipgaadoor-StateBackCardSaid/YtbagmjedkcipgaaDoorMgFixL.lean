/-
  Dot: the loop over the pairs.
-/
import Derived.Test.YtbagmjedkcipgaaDoorMgJBase
namespace Go.Proofs.YtbagmjedkcipgaaDoor
open Go.RowKit Fix

def dotK (xs : List Int) : Nat → Int
  | 0 => 0
  | k + 1 => dotK xs k + xs.getD (2 * k) 0 * xs.getD (2 * k + 1) 0
def pairsIn (xs : List Int) (k : Nat) : Prop := ∀ j, j < 2 * k → inRange (xs.getD j 0) = true
theorem getD_at (xs : List Int) (j : Nat) (h : j < xs.length) : xs.getD j 0 = xs[j] := by simp [h]
theorem all_of_pairs (xs : List Int) (k : Nat) (hk : 2 * k = xs.length) (h : pairsIn xs k) : xs.all inRange = true := by
  rw [List.all_eq_true]
  intro x hx
  obtain ⟨j, hj, rfl⟩ := List.getElem_of_mem hx
  rw [← getD_at xs j hj]
  exact h j (by omega)

/-- How the work of Dot ends. -/
def dotEnd (xs : List Int) : Ending := if xs.all inRange && inRange (nearS (dotK xs (xs.length / 2)) 10000) then .returned (.int .i64 (nearS (dotK xs (xs.length / 2)) 10000)) else gaveUp 2

theorem pairs_more (xs : List Int) (k : Nat) (h : pairsIn xs k) (hk : 2 * k + 1 < xs.length) (h1 : inRange xs[2 * k] = true) (h2 : inRange xs[2 * k + 1] = true) : pairsIn xs (k + 1) := by
  intro j hj
  by_cases h3 : j < 2 * k
  · exact h j h3
  · rw [getD_at xs j (by omega)]
    have : j = 2 * k ∨ j = 2 * k + 1 := by omega
    rcases this with rfl | rfl
    · exact h1
    · exact h2
theorem dotEnd_bad (xs : List Int) (h : xs.all inRange = false) : dotEnd xs = gaveUp 2 := by unfold dotEnd; rw [h]; rfl
theorem dotEnd_big (xs : List Int) (s : Int) (hs : s = dotK xs (xs.length / 2)) (h : ¬ inRange (nearS s 10000) = true) : dotEnd xs = gaveUp 2 := by unfold dotEnd; rw [← hs, Bool.eq_false_iff.2 h, Bool.and_false]; rfl
theorem dotEnd_ok (xs : List Int) (s : Int) (h : xs.all inRange = true) (hs : s = dotK xs (xs.length / 2)) (h2 : inRange (nearS s 10000) = true) : dotEnd xs = .returned (.int .i64 (nearS s 10000)) := by unfold dotEnd; rw [← hs, h, h2]; rfl
theorem drew_more {w wr : World} {m : Nat} (h : ∃ d, wr = w.drewN d) : ∃ k, wr.drewN m = w.drewN k := by
  obtain ⟨d, rfl⟩ := h
  exact ⟨_, World.drewN_drewN _ _ _⟩

set_option maxHeartbeats 8000000 in
theorem dot_work (p : Addr) (a : Option Addr) (cap : Nat) (xs : List Int) (w : World) (hp : w.cell? p = some (.slice a xs.length cap)) (hlen : xs.length ≤ 8) (heven : xs.length % 2 = 0) (hc : ReadsInts w a xs) :
    Calls Tryd.prog 84 #[.pointer (some p)] w fun e w' => e = dotEnd xs ∧ ∃ k, w' = w.drewN k := by
  have HC := Lib.hid hc
  clear hc
  go_enter Tryd.func84, Tryd.ntmps84
  go_wp2
  go_loopw [2, 7] (fun v i wr => ∃ (k : Nat) (s : Int), k ≤ xs.length / 2 ∧ v = .int .i64 s ∧ i = .int .i64 k ∧ Hid (s = dotK xs k ∧ pairsIn xs k) ∧ Hid (-(1152921504606846976 * (k : Int)) ≤ s ∧ s ≤ 1152921504606846976 * k) ∧ ∃ d, wr = w.drewN d) (fun _ i _ => xs.length / 2 - (intOf i).toNat)
  case atStart => exact ⟨0, 0, by omega, rfl, rfl, Lib.hid ⟨rfl, fun j h => by omega⟩, Lib.hid ⟨by omega, by omega⟩, 0, rfl⟩
  case round =>
    obtain ⟨k, s, hk, rfl, rfl, hinv, hbd, hwr⟩ := hrel
    have hp' : wr.cell? p = some (.slice a xs.length cap) := by obtain ⟨d, rfl⟩ := hwr; simpa using hp
    have HC' : Hid (ReadsInts wr a xs) := Lib.hid (by obtain ⟨d, rfl⟩ := hwr; intro j hj; obtain ⟨b, off, ha, hv⟩ := HC.out j hj; exact ⟨b, off, ha, by simpa using hv⟩)
    have HW := Lib.hid hwr
    clear hp HC hwr
    by_cases hlt : k < xs.length / 2
    · obtain ⟨b, off, rfl, hcell⟩ := HC'.out (2 * k) (by omega)
      obtain ⟨b', off', he', hcell'⟩ := HC'.out (2 * k + 1) (by omega)
      cases he'
      have h2k : IntKind.i64.wrap (2 * (k : Int)) = 2 * (k : Int) := IntWalk.i64_in _ (by omega)
      have h2k1 : IntKind.i64.wrap (2 * (k : Int) + 1) = 2 * (k : Int) + 1 := IntWalk.i64_in _ (by omega)
      by_cases hx : inRange xs[2 * k] = true
      · by_cases hy : inRange xs[2 * k + 1] = true
        · have hx2 := inRange_yes hx
          have hy2 := inRange_yes hy
          have hm := mul_bounds hx2.1 hx2.2 hy2.1 hy2.2
          have hw : IntKind.i64.wrap (xs[2 * k] * xs[2 * k + 1]) = xs[2 * k] * xs[2 * k + 1] := IntWalk.i64_in _ (by omega)
          have hw2 : IntKind.i64.wrap (s + xs[2 * k] * xs[2 * k + 1]) = s + xs[2 * k] * xs[2 * k + 1] := IntWalk.i64_in _ (by have := hbd.out; omega)
          have HX := Lib.hid (And.intro hx (And.intro hy (And.intro hx2 (And.intro hy2 hm))))
          clear hx hy hx2 hy2 hm
          have g0 : 0 ≤ 2 * (k : Int) := by omega
          have g1 : 2 * (k : Int) < (xs.length : Int) := by omega
          have g2 : (2 * (k : Int)).toNat = 2 * k := by omega
          have g3 : 0 ≤ 2 * (k : Int) + 1 := by omega
          have g4 : 2 * (k : Int) + 1 < (xs.length : Int) := by omega
          have g5 : (2 * (k : Int) + 1).toNat = 2 * k + 1 := by omega
          go_wp2_with fail
          go_quiet ((go_at_call 85; first | exact Calls.quiet_of_same (sized_s _ _ HX.out.2.2.1.1 HX.out.2.2.1.2) | exact Calls.quiet_of_same (sized_s _ _ HX.out.2.2.2.1.1 HX.out.2.2.2.1.2)))
          go_wp2
          go_roundw
          case rel =>
            refine ⟨k + 1, s + xs[2 * k] * xs[2 * k + 1], by omega, rfl, by go_num, Lib.hid ⟨?_, ?_⟩, Lib.hid (by have := hbd.out; have := HX.out.2.2.2.2; omega), ?_⟩
            · rw [hinv.out.1]
              show _ = dotK xs k + xs.getD (2 * k) 0 * xs.getD (2 * k + 1) 0
              rw [getD_at xs (2 * k) (by omega), getD_at xs (2 * k + 1) (by omega)]
            · exact pairs_more xs k hinv.out.2 (by omega) HX.out.1 HX.out.2.1
            · obtain ⟨d, hd⟩ := HW.out
              exact ⟨_, by rw [hd, World.drewN_drewN]⟩
          case measure => simp [intOf]; omega
        · have H := Lib.hid (inRange_no hy)
          have hx2 := Lib.hid (inRange_yes hx)
          have HE := Lib.hid (dotEnd_bad xs (all_not xs (2 * k + 1) (by omega) hy))
          have g0 : 0 ≤ 2 * (k : Int) := by omega
          have g1 : 2 * (k : Int) < (xs.length : Int) := by omega
          have g2 : (2 * (k : Int)).toNat = 2 * k := by omega
          have g3 : 0 ≤ 2 * (k : Int) + 1 := by omega
          have g4 : 2 * (k : Int) + 1 < (xs.length : Int) := by omega
          have g5 : (2 * (k : Int) + 1).toNat = 2 * k + 1 := by omega
          clear hx hy
          go_wp2_with fail
          go_region_dies
          all_goals
            refine (sized_ok _ _ hx2.out.1 hx2.out.2).mono ?_
            rintro e w' ⟨rfl, rfl⟩
            rename_i K hK
            refine hK _ _ ?_
            first
            | ((refine wpAny_ready (rs := [13]) (by decide +kernel) (by simp) ?_; refine AllReady.cons rfl (fun K' hK' => ?_) AllReady.nil; go_simp); ((refine (sized_no _ _ H.out).mono ?_); rintro e w' ⟨rfl, rfl⟩; exact ⟨rfl, HE.out.symm, drew_more HW.out⟩))
            | ((refine wpAny_ready (rs := [12]) (by decide +kernel) (by simp) ?_; refine AllReady.cons rfl (fun K' hK' => ?_) AllReady.nil; go_simp); (refine hK' _ _ ?_; clear hK' K'); (refine wpAny_ready (rs := [13]) (by decide +kernel) (by simp) ?_; refine AllReady.cons rfl (fun K' hK' => ?_) AllReady.nil; go_simp); ((refine (sized_no _ _ H.out).mono ?_); rintro e w' ⟨rfl, rfl⟩; exact ⟨rfl, HE.out.symm, drew_more HW.out⟩))
            | ((refine wpAny_ready (rs := [7]) (by decide +kernel) (by simp) ?_; refine AllReady.cons rfl (fun K' hK' => ?_) AllReady.nil; go_simp); (refine hK' _ _ ?_; clear hK' K'); (refine wpAny_ready (rs := [11]) (by decide +kernel) (by simp) ?_; refine AllReady.cons rfl (fun K' hK' => ?_) AllReady.nil; go_simp); (refine hK' _ _ ?_; clear hK' K'); (refine wpAny_ready (rs := [12]) (by decide +kernel) (by simp) ?_; refine AllReady.cons rfl (fun K' hK' => ?_) AllReady.nil; go_simp); (refine hK' _ _ ?_; clear hK' K'); (refine wpAny_ready (rs := [13]) (by decide +kernel) (by simp) ?_; refine AllReady.cons rfl (fun K' hK' => ?_) AllReady.nil; go_simp); ((refine (sized_no _ _ H.out).mono ?_); rintro e w' ⟨rfl, rfl⟩; exact ⟨rfl, HE.out.symm, drew_more HW.out⟩))
      · have H := Lib.hid (inRange_no hx)
        have HE := Lib.hid (dotEnd_bad xs (all_not xs (2 * k) (by omega) hx))
        have g0 : 0 ≤ 2 * (k : Int) := by omega
        have g1 : 2 * (k : Int) < (xs.length : Int) := by omega
        have g2 : (2 * (k : Int)).toNat = 2 * k := by omega
        have g3 : 0 ≤ 2 * (k : Int) + 1 := by omega
        have g4 : 2 * (k : Int) + 1 < (xs.length : Int) := by omega
        have g5 : (2 * (k : Int) + 1).toNat = 2 * k + 1 := by omega
        clear hx
        go_wp2_with fail
        go_region_dies
        all_goals
          refine (sized_no _ _ H.out).mono ?_
          rintro e w' ⟨rfl, rfl⟩
          exact ⟨rfl, HE.out.symm, drew_more HW.out⟩
    · obtain rfl : k = xs.length / 2 := by omega
      have hall := all_of_pairs xs (xs.length / 2) (by omega) hinv.out.2
      have hs := hinv.out.1
      have hdiv := div_bounds (n := s) (by have := hbd.out; omega) (by have := hbd.out; omega)
      have HN : Hid (∀ W : World, Calls Tryd.prog 86 #[.int .i64 s, .int .i64 10000] W fun e w' => e = .returned (.int .i64 (nearS s 10000)) ∧ ∃ k, w' = W.drewN k) := Lib.hid fun W => near_any _ _ _ (by decide) (by decide) hdiv
      by_cases hr : inRange (nearS s 10000) = true
      · have HE := Lib.hid (dotEnd_ok xs s hall hs hr)
        have HS := Lib.hid (inRange_yes hr)
        clear hall hs hdiv hr hbd hinv
        go_wp2_with fail
        refine (HN.out _).mono ?_
        rintro e w' ⟨rfl, m, rfl⟩
        go_wp2_with fail
        refine (sized_ok _ _ HS.out.1 HS.out.2).mono ?_
        rintro e w' ⟨rfl, rfl⟩
        go_wp2
        go_ret
        exact ⟨HE.out.symm, drew_more HW.out⟩
      · have HE := Lib.hid (dotEnd_big xs s hs hr)
        have H := Lib.hid (inRange_no hr)
        clear hall hs hdiv hr hbd hinv
        go_wp2_with fail
        refine (HN.out _).mono ?_
        rintro e w' ⟨rfl, m, rfl⟩
        go_wp2_with fail
        refine (sized_no _ _ H.out).mono ?_
        rintro e w' ⟨rfl, rfl⟩
        exact ⟨rfl, HE.out.symm, drew_more HW.out⟩
end Go.Proofs.YtbagmjedkcipgaaDoor
