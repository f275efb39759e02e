/-
  The document's Unhex.
-/
import Derived.Test.YthioafndepkhoaaAscM
import Derived.Test.YthioafndepkhoaaOctR
namespace Go.Proofs.Ythioafndepkhoaa
open Go.RowKit Oct Asc Go.Shelf
attribute [-go_sem] Builtin.append_

theorem white_rb (c : UInt8) (b : Bool) (w : World) (h : whiteS c = b) : Calls Try.prog 19 #[.int .u8 (c.toNat : Int)] w fun e w' => e = .returned (.bool b) ∧ w = w' := h ▸ white_r c w
theorem digit_rb (c : UInt8) (d : Int) (w : World) (h : digitS c = d) : Calls Try.prog 20 #[.int .u8 (c.toNat : Int)] w fun e w' => e = .returned (.int .i64 d) ∧ w = w' := h ▸ digit_r c w
def highV (h : Option UInt8) : Int := match h with | none => -1 | some d => digitS d
/-- The loop of the document's Unhex, at byte k. -/
def UhTo (N : Nat) (w : World) (m : Nat) (F : Int × List UInt8) (l : List UInt8) (k : Nat) (o : List UInt8) (h : Option UInt8) (v : Value) (wr : World) : Prop :=
  wr.ownsRow N 5 1 v o.length (cellsOf o) ∧ Below N w wr ∧ F = hexD m o h (l.drop k) ∧ o.length ≤ m ∧ (∀ d, h = some d → 0 ≤ digitS d)

set_option maxRecDepth 100000 in
set_option maxHeartbeats 8000000 in
theorem unhexR_in (s : ByteArray) (n : Int) (m : Nat) (F : Int × List UInt8) (w : World) (hs : s.size ≤ 3000) (hn : 0 ≤ n) (hm : (min n 1048576).toNat = m) (hF : F = hexD m [] none s.data.toList) :
    Calls Try.prog 6 #[.string s, .int .i64 n] w (DecodedIs F w) := by
  have hmi : min n 1048576 = (m : Int) := by omega
  have hm2 : m ≤ 1048576 := by omega
  have hn0 : ¬ n < 0 := by omega
  have hl : s.data.toList.length = s.size := by simp
  obtain ⟨N, hN⟩ : ∃ N, w.heap.size = N := ⟨_, rfl⟩
  have HNW := Lib.hid hN
  have h0 := Lib.hid (show UhTo N w m F s.data.toList 0 [] none (.slice none 0 0) w from ⟨World.ownsRow_nil _ _ _ _, by rw [← hN]; exact Below.refl _ _, hF, by simp, fun d h => by cases h⟩)
  have HL := Lib.hid hl
  unfold DecodedIs
  rw [hN]
  clear hF hl hN hm
  go_enter Try.func6, Try.ntmps6
  go_wp2_with fail
  go_loopw [6, 7, 8] (fun v hv i wr => ∃ (k : Nat) (o : List UInt8) (h : Option UInt8), k ≤ s.size ∧ i = .int .i64 (k : Int) ∧ hv = .int .i64 (highV h) ∧ Hid (UhTo N w m F s.data.toList k o h v wr)) (fun _ _ i _ => s.size - (intOf i).toNat)
  case atStart => exact ⟨0, [], none, by omega, rfl, rfl, h0⟩
  case round =>
    clear h0
    obtain ⟨k, o, h, hk, rfl, rfl, HU⟩ := hrel
    obtain ⟨g1, g2, g3, g4, g5⟩ := HU.out
    obtain ⟨A, C, hv⟩ := own_form g1
    obtain ⟨q, hq⟩ : ∃ q, o.length = q := ⟨_, rfl⟩
    rw [hq] at hv g1 g4
    subst hv
    have HO := Lib.hid g1
    have HB := Lib.hid g2
    have HQ := Lib.hid hq
    have HD := Lib.hid g5
    clear g1 g2 hq g5 HU
    by_cases hlt : k < s.size
    · have i0 : (0 : Int) ≤ (k : Int) := by omega
      have i1 : (k : Int) < (s.size : Int) := by omega
      obtain ⟨c, hc⟩ : ∃ c, s[k] = c := ⟨_, rfl⟩
      have hdrop : s.data.toList.drop k = c :: s.data.toList.drop (k + 1) := by
        rw [drop_at (by rw [HL.out]; exact hlt)]
        congr 1
      rw [hdrop] at g3
      clear hdrop
      have hN2 : N ≤ wr.heap.size := by have := HB.out.size; rw [HNW.out] at this; exact this
      have HN2 := Lib.hid hN2
      clear hN2
      by_cases hw : whiteS c = true
      · rw [hexD_white _ hw] at g3
        have hN3 := Lib.hid (show UhTo N w m F s.data.toList (k + 1) o h (.slice A q C) wr from ⟨by rw [HQ.out]; exact HO.out, HB.out, g3, by rw [HQ.out]; exact g4, HD.out⟩)
        have HC := Lib.hid (fun W : World => white_rb c true W hw)
        clear g3 hw
        go_wp2_with (go_at_call 19; refine (HC.out _).mono ?_; rintro e w' ⟨rfl, rfl⟩)
        go_roundw
        case rel => exact ⟨k + 1, o, h, by omega, by go_num, rfl, hN3⟩
        case measure => simp [intOf]; omega
      · have hw : whiteS c = false := by simpa using hw
        have HC := Lib.hid (fun W : World => white_rb c false W hw)
        obtain ⟨D, hD⟩ : ∃ D, digitS c = D := ⟨_, rfl⟩
        have HDg := Lib.hid (fun W : World => digit_rb c D W hD)
        by_cases h62 : c = 62
        · subst h62
          have HC2 := Lib.hid (show ∀ W : World, Calls Try.prog 19 #[.int .u8 62] W (fun e w' => e = .returned (.bool false) ∧ W = w') from HC.out)
          have HDg2 := Lib.hid (show ∀ W : World, Calls Try.prog 20 #[.int .u8 62] W (fun e w' => e = .returned (.int .i64 D) ∧ W = w') from HDg.out)
          clear HC HDg
          rcases h with _ | ⟨d⟩
          · rw [hexD_end] at g3
            have hconv := run_string_of_own (l := o) HO.out HQ.out
            have HF := Lib.hid g3
            clear g3 hw hD
            rw [show highV none = -1 from rfl]
            go_wp2_with (first | (go_at_call 19; refine (HC2.out _).mono ?_; rintro e w' ⟨rfl, rfl⟩) | (go_at_call 20; refine (HDg2.out _).mono ?_; rintro e w' ⟨rfl, rfl⟩))
            go_ret2
            exact ⟨by rw [HF.out]; rfl, HB.out⟩
          · rw [hexD_half] at g3
            obtain ⟨E, hE⟩ : ∃ E, digitS d = E := ⟨_, rfl⟩
            have hd0 := HD.out d rfl
            have hdl := digit_le d
            have hv : (((pairByte d 48).toNat : Nat) : Int) = 16 * E := by rw [pair_val d 48 hd0 (by decide), hE]; show 16 * E + 0 = 16 * E; omega
            rw [hE] at hd0 hdl
            by_cases hfull : m ≤ o.length
            · have HF := Lib.hid (g3.trans (if_pos hfull))
              have hq2 : (m : Int) ≤ (q : Int) := by have := HQ.out; omega
              clear g3 hw hD hv
              rw [show highV (some d) = E from hE]
              go_wp2_with (first | (go_at_call 19; refine (HC2.out _).mono ?_; rintro e w' ⟨rfl, rfl⟩) | (go_at_call 20; refine (HDg2.out _).mono ?_; rintro e w' ⟨rfl, rfl⟩))
              go_ret2
              exact ⟨by rw [HF.out]; rfl, HB.out⟩
            · have HF := Lib.hid (g3.trans (if_neg hfull))
              have hq2 : ¬ (m : Int) ≤ (q : Int) := by have := HQ.out; omega
              obtain ⟨g, cap, w3, hrun, hown3, hb3, _⟩ := app_one (pairByte d 48) wr HO.out HN2.out (by omega)
              rw [hv] at hrun
              have hlen : (o ++ [pairByte d 48]).length = q + 1 := by rw [List.length_append, HQ.out]; rfl
              have hconv := run_string_of_own (l := o ++ [pairByte d 48]) hown3 hlen
              have HB3 := Lib.hid (HB.out.trans hb3)
              clear g3 hw hD hv hown3 hb3 hlen
              rw [show highV (some d) = E from hE]
              go_wp2_with (first | (go_at_call 19; refine (HC2.out _).mono ?_; rintro e w' ⟨rfl, rfl⟩) | (go_at_call 20; refine (HDg2.out _).mono ?_; rintro e w' ⟨rfl, rfl⟩))
              go_ret2
              exact ⟨by rw [HF.out]; rfl, HB3.out⟩
        · have h62' : ((c.toNat : Int) == 62) = false := asc_ne h62
          by_cases hdg : digitS c < 0
          · rw [hexD_bad _ hw h62 hdg] at g3
            have hD0 : D < 0 := by omega
            have HF := Lib.hid g3
            clear g3 hw h62 hdg hD
            go_wp2_with (first | (go_at_call 19; refine (HC.out _).mono ?_; rintro e w' ⟨rfl, rfl⟩) | (go_at_call 20; refine (HDg.out _).mono ?_; rintro e w' ⟨rfl, rfl⟩))
            go_ret2
            exact ⟨by rw [HF.out]; rfl, HB.out⟩
          · have hdg : 0 ≤ digitS c := by omega
            have hcl := digit_le c
            rw [hD] at hcl
            have hD0 : ¬ D < 0 := by omega
            rcases h with _ | ⟨d⟩
            · rw [hexD_one _ hw h62 hdg] at g3
              have hN3 := Lib.hid (show UhTo N w m F s.data.toList (k + 1) o (some c) (.slice A q C) wr from ⟨by rw [HQ.out]; exact HO.out, HB.out, g3, by rw [HQ.out]; exact g4, fun d h => by injection h with h; rw [← h]; exact hdg⟩)
              have HV := Lib.hid (show highV (some c) = D from hD)
              clear g3 hw hD h62 hdg
              rw [show highV none = -1 from rfl]
              go_wp2_with (first | (go_at_call 19; refine (HC.out _).mono ?_; rintro e w' ⟨rfl, rfl⟩) | (go_at_call 20; refine (HDg.out _).mono ?_; rintro e w' ⟨rfl, rfl⟩))
              go_roundw
              case rel => exact ⟨k + 1, o, some c, by omega, by go_num, by rw [HV.out], hN3⟩
              case measure => simp [intOf]; omega
            · rw [hexD_two _ hw h62 hdg] at g3
              obtain ⟨E, hE⟩ : ∃ E, digitS d = E := ⟨_, rfl⟩
              have hd0 := HD.out d rfl
              have hdl := digit_le d
              have hv : (((pairByte d c).toNat : Nat) : Int) = 16 * E + D := by rw [pair_val d c hd0 hdg, hE, hD]
              rw [hE] at hd0 hdl
              by_cases hfull : m ≤ o.length
              · have HF := Lib.hid (g3.trans (if_pos hfull))
                have hq2 : (m : Int) ≤ (q : Int) := by have := HQ.out; omega
                clear g3 hw hD h62 hv hdg
                rw [show highV (some d) = E from hE]
                go_wp2_with (first | (go_at_call 19; refine (HC.out _).mono ?_; rintro e w' ⟨rfl, rfl⟩) | (go_at_call 20; refine (HDg.out _).mono ?_; rintro e w' ⟨rfl, rfl⟩))
                go_ret2
                exact ⟨by rw [HF.out]; rfl, HB.out⟩
              · have hF := g3.trans (if_neg hfull)
                have hq2 : ¬ (m : Int) ≤ (q : Int) := by have := HQ.out; omega
                obtain ⟨g, cap, w3, hrun, hown3, hb3, _⟩ := app_one (pairByte d c) wr HO.out HN2.out (by omega)
                rw [hv] at hrun
                have hlen : (o ++ [pairByte d c]).length = q + 1 := by rw [List.length_append, HQ.out]; rfl
                have hN3 := Lib.hid (show UhTo N w m F s.data.toList (k + 1) (o ++ [pairByte d c]) none (.slice (some ⟨g, 0, none⟩) (q + 1) cap) w3 from ⟨by rw [hlen]; exact hown3, HB.out.trans hb3, hF, by rw [hlen]; have := HQ.out; omega, fun d h => by cases h⟩)
                clear g3 hw hD h62 hv hdg hown3 hb3 hF hlen
                rw [show highV (some d) = E from hE]
                go_wp2_with (first | (go_at_call 19; refine (HC.out _).mono ?_; rintro e w' ⟨rfl, rfl⟩) | (go_at_call 20; refine (HDg.out _).mono ?_; rintro e w' ⟨rfl, rfl⟩))
                go_roundw
                case rel => exact ⟨k + 1, _, none, by omega, by go_num, rfl, hN3⟩
                case measure => simp [intOf]; omega
    · obtain rfl : k = s.size := by omega
      rw [List.drop_eq_nil_of_le (by rw [HL.out]; exact Nat.le_refl _), hexD_nil] at g3
      have HF := Lib.hid g3
      clear g3
      go_wp2_with fail
      go_ret2
      exact ⟨by rw [HF.out]; rfl, HB.out⟩
end Go.Proofs.Ythioafndepkhoaa
