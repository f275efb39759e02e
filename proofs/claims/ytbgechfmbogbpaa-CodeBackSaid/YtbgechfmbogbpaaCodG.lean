/-
  code's ordered: the symbols that have codes, in the order of their codes.
-/
import Derived.Test.YtbgechfmbogbpaaCodF
namespace Go.Proofs.Ytbgechfmbogbpaa
open Go.RowKit Cod

/-- Where the symbols of each length begin, for the first k lengths. -/
def nz (l : List Int) (k n : Nat) : Int := if n < k then (totK l n : Int) else 0
theorem nz_zero (l : List Int) : ag (nz l 0) = #[.int .i64 0, .int .i64 0, .int .i64 0, .int .i64 0, .int .i64 0, .int .i64 0, .int .i64 0, .int .i64 0, .int .i64 0, .int .i64 0, .int .i64 0, .int .i64 0, .int .i64 0, .int .i64 0, .int .i64 0, .int .i64 0] := ag_congr (g := fun _ => 0) (fun n _ => by unfold nz; rw [if_neg (by omega)])
theorem nz_step (l : List Int) (k : Nat) : (ag (nz l k)).setIfInBounds k (.int .i64 (totK l k : Int)) = ag (nz l (k + 1)) := by
  rw [ag_set]
  apply ag_congr
  intro n _
  unfold nz
  by_cases h : n = k
  · subst h; rw [if_pos rfl, if_pos (by omega)]
  · rw [if_neg h]
    by_cases h2 : n < k
    · rw [if_pos h2, if_pos (by omega)]
    · rw [if_neg h2, if_neg (by omega)]
theorem nz_end (l : List Int) : ag (nz l 16) = ag (nt l 0) := ag_congr (fun n hn => by unfold nz; rw [if_pos hn, nt_zero])
theorem totK_used (l : List Int) (hr : rangeOk l = true) : totK l 16 ≤ l.length := by
  rw [← used_sum l hr]
  exact List.countP_le_length

set_option maxRecDepth 100000 in
set_option maxHeartbeats 4000000 in
theorem ordered_any (A : Option Addr) (cap : Nat) (l : List Int) (w : World) (h : IAt w A l) (hl : l.length ≤ 288) (hr : rangeOk l = true) :
    Calls Try.prog 31 #[.slice A l.length cap, .agg (tc l)] w fun e w' => ∃ R : Nat, e = .returned (.slice (some ⟨R, 0, none⟩) (totK l 16) (totK l 16)) ∧ w.heap.size ≤ R ∧ IRow w' R (signsL l) ∧ Below w.heap.size w w' := by
  have HA := Lib.hid h
  have HR := Lib.hid (fun k hk => range_at hr k hk)
  have HL := Lib.hid (fun k => tl_le l k)
  have HT1 := Lib.hid (fun k => totK_le l (by omega) k)
  have htot := totK_used l hr
  have HZ0 := Lib.hid (nz_zero l)
  have HZS := Lib.hid (fun k => nz_step l k)
  have HZE := Lib.hid (nz_end l)
  rw [tc_ag]
  obtain ⟨N, hN⟩ : ∃ N, w.heap.size = N := ⟨_, rfl⟩
  have HS := Lib.hid hN
  obtain ⟨n, hn⟩ : ∃ n, l.length = n := ⟨_, rfl⟩
  have HN := Lib.hid hn
  obtain ⟨z, hz⟩ : ∃ z, totK l 16 = z := ⟨_, rfl⟩
  have HZ := Lib.hid hz
  have HT := Lib.hid (show ∀ n, tv l n = (tl l n : Int) from fun n => rfl)
  obtain ⟨t, ht⟩ : ∃ t, tv l = t := ⟨_, rfl⟩
  rw [ht] at HT ⊢
  rw [hn] at HL ⊢
  rw [hz] at htot ⊢
  obtain ⟨V, hV⟩ : ∃ V, (w.alloc (.cells #[.int .i64 (t 0), .int .i64 (t 1), .int .i64 (t 2), .int .i64 (t 3), .int .i64 (t 4), .int .i64 (t 5), .int .i64 (t 6), .int .i64 (t 7), .int .i64 (t 8), .int .i64 (t 9), .int .i64 (t 10), .int .i64 (t 11), .int .i64 (t 12), .int .i64 (t 13), .int .i64 (t 14), .int .i64 (t 15)] 51)).alloc (.cells #[.int .i64 0, .int .i64 0, .int .i64 0, .int .i64 0, .int .i64 0, .int .i64 0, .int .i64 0, .int .i64 0, .int .i64 0, .int .i64 0, .int .i64 0, .int .i64 0, .int .i64 0, .int .i64 0, .int .i64 0, .int .i64 0] 51) = V := ⟨_, rfl⟩
  have hVs : V.heap.size = N + 2 := by rw [← hV, World.size_alloc, World.size_alloc, hN]
  have B0 := Lib.hid (show Below N w V ∧ N + 2 ≤ V.heap.size from ⟨by rw [← hV, ← hN]; exact ((Below.refl _ w).alloc (Nat.le_refl _) _).alloc (by simp) _, by omega⟩)
  have F0 := Lib.hid (show Blk V (N + 1) 51 (ag (nz l 0)) by
    rw [← hV, HZ0.out]
    have := Blk.new (w.alloc (.cells #[.int .i64 (t 0), .int .i64 (t 1), .int .i64 (t 2), .int .i64 (t 3), .int .i64 (t 4), .int .i64 (t 5), .int .i64 (t 6), .int .i64 (t 7), .int .i64 (t 8), .int .i64 (t 9), .int .i64 (t 10), .int .i64 (t 11), .int .i64 (t 12), .int .i64 (t 13), .int .i64 (t 14), .int .i64 (t 15)] 51)) 51 #[.int .i64 0, .int .i64 0, .int .i64 0, .int .i64 0, .int .i64 0, .int .i64 0, .int .i64 0, .int .i64 0, .int .i64 0, .int .i64 0, .int .i64 0, .int .i64 0, .int .i64 0, .int .i64 0, .int .i64 0, .int .i64 0]
    rw [World.size_alloc, hN] at this
    exact this)
  have HVV := Lib.hid hV
  rw [hN]
  have hnb : (n : Int) ≤ 288 := by omega
  have hn0 : (0 : Int) ≤ (n : Int) := by omega
  have hzb : (z : Int) ≤ 288 := by omega
  have hz0 : (0 : Int) ≤ (z : Int) := by omega
  have HMK := Lib.hid (make_ints z (by omega))
  clear h hl hr ht hV hVs hN hn hz HZ0 htot
  unfold ag
  go_enter Try.func31, Try.ntmps31
  go_wp2_with fail
  rw [HVV.out, HS.out]
  clear HVV
  go_loopw [6, 13] (fun tv iv wr => ∃ k : Nat, k ≤ 16 ∧ tv = .int .i64 (totK l k : Int) ∧ iv = .int .i64 (k : Int) ∧ Hid (Below N w wr ∧ N + 2 ≤ wr.heap.size) ∧ Hid (Blk wr (N + 1) 51 (ag (nz l k)))) (fun _ iv _ => 16 - (intOf iv).toNat)
  case atStart => exact ⟨0, by omega, rfl, rfl, B0, F0⟩
  case round =>
    clear B0 F0
    obtain ⟨k, hk, rfl, rfl, HB, HF⟩ := hrel
    by_cases hlt : k < 16
    · have hik : (k : Int) < 16 := by omega
      have hik0 : (0 : Int) ≤ (k : Int) := by omega
      have a1 := (HF.out.cell k).trans (ag_at _ k hlt)
      have z1 := HF.out.frozen k
      obtain ⟨o, ho⟩ : ∃ o, nz l k k = o := ⟨_, rfl⟩
      rw [ho] at a1
      obtain ⟨a, ha⟩ : ∃ a : Nat, totK l k = a := ⟨_, rfl⟩
      obtain ⟨c, hc⟩ : ∃ c : Nat, tl l k = c := ⟨_, rfl⟩
      have ha1 : (a : Int) ≤ 16000000 := by have := HT1.out k; omega
      have hc1 : (c : Int) ≤ 288 := by have := HL.out k; omega
      have ha0 : (0 : Int) ≤ (a : Int) := by omega
      have hc0 : (0 : Int) ≤ (c : Int) := by omega
      have HTS := Lib.hid (show (totK l (k + 1) : Int) = (a : Int) + (c : Int) by rw [totK_succ, ha, hc]; push_cast; rfl)
      have HI := Lib.hid (fun W : World => (by have := ag_index t k hlt W; rwa [HT.out k, hc] at this : (Instr.index 51 (.agg #[.int .i64 (t 0), .int .i64 (t 1), .int .i64 (t 2), .int .i64 (t 3), .int .i64 (t 4), .int .i64 (t 5), .int .i64 (t 6), .int .i64 (t 7), .int .i64 (t 8), .int .i64 (t 9), .int .i64 (t 10), .int .i64 (t 11), .int .i64 (t 12), .int .i64 (t 13), .int .i64 (t 14), .int .i64 (t 15)]) (.int .i64 (k : Int))).run Try.prog W = .ok (.int .i64 (c : Int)) W))
      have HF2 := Lib.hid (show Blk (wr.setCell ⟨N + 1, k, none⟩ (.int .i64 (a : Int))) (N + 1) 51 (ag (nz l (k + 1))) by
        rw [← HZS.out k, ← ha]
        exact HF.out.set_ k _)
      have HB2 := Lib.hid (show Below N w (wr.setCell ⟨N + 1, k, none⟩ (.int .i64 (a : Int))) ∧ N + 2 ≤ (wr.setCell ⟨N + 1, k, none⟩ (.int .i64 (a : Int))).heap.size from ⟨HB.out.1.setCell (by show N ≤ N + 1; omega) _, by simpa [World.setCell] using HB.out.2⟩)
      rw [ha]
      clear ha hc ho
      go_wp2_with (simp only [HI.out])
      go_roundw
      case rel => exact ⟨k + 1, by omega, by rw [HTS.out], by go_num, HB2, HF2⟩
      case measure => simp [intOf]; omega
    · obtain rfl : k = 16 := by omega
      rw [HZ.out]
      have HF1 := Lib.hid (show Blk wr (N + 1) 51 (ag (nt l 0)) by rw [← HZE.out]; exact HF.out)
      obtain ⟨R, hRd⟩ : ∃ R, wr.heap.size = R := ⟨_, rfl⟩
      have hNR : N + 2 ≤ R := by have := HB.out.2; omega
      obtain ⟨V2, hV2⟩ : ∃ V, wr.alloc (.cells (rI (List.replicate z 0)) 3) = V := ⟨_, rfl⟩
      have HR2 := Lib.hid (show IRow V2 R (signsK l 0) by unfold signsK; rw [HZ.out, ← hV2, ← hRd]; exact Blk.new _ _ _)
      have HB2 := Lib.hid (show Below N w V2 ∧ R + 1 ≤ V2.heap.size from ⟨by rw [← hV2]; exact HB.out.1.alloc (by omega) _, by rw [← hV2, World.size_alloc, hRd]; exact Nat.le_refl _⟩)
      have HX2 := Lib.hid (show Blk V2 (N + 1) 51 (ag (nt l 0)) by rw [← hV2]; exact HF1.out.alloc _)
      have mk := HMK.out wr
      rw [hV2, hRd] at mk
      clear HMK hV2 hRd HF HF1 HB HT hlt hk HZE HZS
      go_wp2_with fail
      clear mk
      obtain ⟨wo, hwo⟩ : ∃ wo, wo = wr := ⟨_, rfl⟩
      clear hwo
      go_loopw [28] (fun iv wr => ∃ k : Nat, k ≤ n ∧ iv = .int .i64 (k : Int) ∧ Hid (Below N w wr ∧ R + 1 ≤ wr.heap.size) ∧ Hid (IRow wr R (signsK l k)) ∧ Hid (Blk wr (N + 1) 51 (ag (nt l k)))) (fun iv _ => n - (intOf iv).toNat)
      case atStart => exact ⟨0, by omega, rfl, HB2, HR2, HX2⟩
      case round =>
        clear HB2 HR2 HX2
        obtain ⟨k, hk, rfl, HB, HI, HQ⟩ := hrel
        by_cases hlt : k < n
        · have hkl : k < l.length := by rw [HN.out]; exact hlt
          have hik : (k : Int) < (n : Int) := by omega
          have hik0 : (0 : Int) ≤ (k : Int) := by omega
          obtain ⟨b, off, rfl, _, c0⟩ := (HA.out.below (HS.out ▸ HB.out.1)) k hkl
          have hx01 := HR.out k hkl
          obtain ⟨x, hx⟩ : ∃ x : Nat, l[k] = (x : Int) := ⟨l[k].toNat, by omega⟩
          have hx15 : x ≤ 15 := by omega
          rw [hx] at c0
          clear hx01
          by_cases hx0 : x = 0
          · subst hx0
            have HI2 := Lib.hid (show IRow wr R (signsK l (k + 1)) by unfold signsK; rw [gd l hkl, hx, if_neg (by decide)]; exact HI.out)
            have HQ2 := Lib.hid (show Blk wr (N + 1) 51 (ag (nt l (k + 1))) by rw [ag_congr (g := nt l k) (fun m _ => nt_skip l hkl hx m)]; exact HQ.out)
            clear hx
            rw [show ((0 : Nat) : Int) = 0 from rfl] at c0
            go_wp2_with fail
            go_roundw
            case rel => exact ⟨k + 1, by omega, by go_num, HB, HI2, HQ2⟩
            case measure => simp [intOf]; omega
          · have x1 : (0 : Int) < (x : Int) := by omega
            have x2 : (x : Int) < 16 := by omega
            have x3 : (0 : Int) ≤ (x : Int) := by omega
            have a1 := (HQ.out.cell x).trans (ag_at _ x (by omega))
            rw [← posOf_nt l hkl hx] at a1
            have z1 := HQ.out.frozen x
            have hp := (posOf_lt l hkl hx hx0 hx15).2
            rw [HZ.out] at hp
            have hpl : posOf l k < (signsK l k).length := by rw [signsK_len, HZ.out]; exact hp
            have a2 := HI.out.cell (posOf l k) hpl
            have z2 := HI.out.frozen (posOf l k)
            obtain ⟨y, hy⟩ : ∃ y, posOf l k = y := ⟨_, rfl⟩
            obtain ⟨o, ho⟩ : ∃ o, (signsK l k)[posOf l k] = o := ⟨_, rfl⟩
            have HI2 := Lib.hid (show IRow ((wr.setCell ⟨R, y, none⟩ (.int .i64 (k : Int))).setCell ⟨N + 1, x, none⟩ (.int .i64 ((y : Int) + 1))) R (signsK l (k + 1)) by
              have e := HI.out.set_ y (k : Int)
              unfold signsK
              rw [gd l hkl, hx, if_pos x1, hy]
              exact Blk.far e (by show R ≠ N + 1; omega) _)
            have HQ2 := Lib.hid (show Blk ((wr.setCell ⟨R, y, none⟩ (.int .i64 (k : Int))).setCell ⟨N + 1, x, none⟩ (.int .i64 ((y : Int) + 1))) (N + 1) 51 (ag (nt l (k + 1))) by
              have e := (HQ.out.far (p := ⟨R, y, none⟩) (by show N + 1 ≠ R; omega) (.int .i64 (k : Int))).set_ x (.int .i64 ((y : Int) + 1))
              rw [ag_set, ag_congr (g := nt l (k + 1)) (fun m _ => by rw [← hy, posOf_nt l hkl hx]; exact nt_step l hkl hx hx0 m)] at e
              exact e)
            have HB2 := Lib.hid (show Below N w ((wr.setCell ⟨R, y, none⟩ (.int .i64 (k : Int))).setCell ⟨N + 1, x, none⟩ (.int .i64 ((y : Int) + 1))) ∧ R + 1 ≤ ((wr.setCell ⟨R, y, none⟩ (.int .i64 (k : Int))).setCell ⟨N + 1, x, none⟩ (.int .i64 ((y : Int) + 1))).heap.size from ⟨(HB.out.1.setCell (by show N ≤ R; omega) _).setCell (by show N ≤ N + 1; omega) _, by simpa [World.setCell] using HB.out.2⟩)
            rw [ho] at a2
            rw [hy] at a1 a2 z2 hp
            clear hx hy ho hx0 hpl
            have hp1 : (y : Int) < (z : Int) := by omega
            have hp0 : (0 : Int) ≤ (y : Int) := by omega
            have ne1 : R ≠ N + 1 := by omega
            have ne2 : N + 1 ≠ R := by omega
            go_wp2_with fail
            go_roundw
            case rel => exact ⟨k + 1, by omega, by go_num, HB2, HI2, HQ2⟩
            case measure => simp [intOf]; omega
        · obtain rfl : k = n := by omega
          have HI1 := Lib.hid (show IRow wr R (signsL l) by unfold signsL; rw [HN.out]; exact HI.out)
          clear HI
          go_wp2_with fail
          go_ret
          exact ⟨R, rfl, by omega, HI1.out, HB.out.1⟩
end Go.Proofs.Ytbgechfmbogbpaa
