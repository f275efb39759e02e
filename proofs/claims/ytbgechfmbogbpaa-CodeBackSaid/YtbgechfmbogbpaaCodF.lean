/-
  code's Codes: the code of each symbol, or Check's error.
-/
import Derived.Test.YtbgechfmbogbpaaCodE
import Derived.Test.YtbgechfmbogbpaaCodMc
namespace Go.Proofs.Ytbgechfmbogbpaa
open Go.RowKit Cod

theorem chk_ok {l : List Int} (h : chkE l = 0) : l.length ≤ 288 ∧ rangeOk l = true ∧ validL l = true := by
  unfold chkE at h
  by_cases h1 : 288 < l.length
  · rw [if_pos h1] at h; exact absurd h (by decide)
  · rw [if_neg h1] at h
    by_cases h2 : rangeOk l = false
    · rw [if_pos h2] at h; exact absurd h (by decide)
    · rw [if_neg h2] at h
      by_cases h3 : validL l = false
      · rw [if_pos h3] at h; exact absurd h (by decide)
      · exact ⟨by omega, by simpa using h2, by simpa using h3⟩
theorem range_at {l : List Int} (hr : rangeOk l = true) (k : Nat) (h : k < l.length) : 0 ≤ l[k] ∧ l[k] ≤ 15 := by
  have := List.all_eq_true.1 hr l[k] (List.getElem_mem h)
  simp only [Bool.and_eq_true, decide_eq_true_eq] at this
  exact this

set_option maxRecDepth 100000 in
set_option maxHeartbeats 4000000 in
theorem codes_no (A : Option Addr) (cap : Nat) (l : List Int) (w : World) (h : IAt w A l) (hl : l.length ≤ 1000000) (x : Int) (hc : chkE l = x) (hx : x ≠ 0) :
    Calls Try.prog 9 #[.slice A l.length cap] w fun e w' => e = .returned (.tuple #[.slice none 0 0, .int .i64 x]) ∧ Below w.heap.size w w' := by
  have HC := Lib.hid (check_any A cap l w h hl)
  rw [hc] at HC
  have hx' : ¬ x = 0 := hx
  clear h hl hc hx
  go_enter Try.func9, Try.ntmps9
  go_wp2_with fail
  refine HC.out.mono ?_
  rintro e w1 ⟨rfl, hb⟩
  have HB := Lib.hid hb
  clear hb
  go_wp2_with fail
  go_ret2
  exact ⟨rfl, HB.out⟩

set_option maxRecDepth 100000 in
set_option maxHeartbeats 4000000 in
theorem codes_ok (A : Option Addr) (cap : Nat) (l : List Int) (w : World) (h : IAt w A l) (hc : chkE l = 0) :
    Calls Try.prog 9 #[.slice A l.length cap] w fun e w' => ∃ R : Nat, e = .returned (.tuple #[.slice (some ⟨R, 0, none⟩) l.length l.length, .int .i64 0]) ∧ w.heap.size ≤ R ∧ IRow w' R (codesL l) ∧ Below w.heap.size w w' := by
  obtain ⟨hl, hr, _⟩ := chk_ok hc
  have HC := Lib.hid (check_any A cap l w h (by omega))
  rw [hc] at HC
  have HA := Lib.hid h
  have HT := Lib.hid (fun W (hA : IAt W A l) => count_any A cap l W hA hr (by omega))
  have HF := Lib.hid (fun W => firsts_any l W (by omega))
  have HR := Lib.hid (fun k hk => range_at hr k hk)
  have HX := Lib.hid (fun k n h1 h2 => nx_le l (by omega) k n h1 h2)
  have HCZ := Lib.hid (codesK_zero l)
  obtain ⟨N, hN⟩ : ∃ N, w.heap.size = N := ⟨_, rfl⟩
  have HS := Lib.hid hN
  obtain ⟨n, hn⟩ : ∃ n, l.length = n := ⟨_, rfl⟩
  have HN := Lib.hid hn
  rw [hn] at HC HT HCZ ⊢
  rw [hN] at HC ⊢
  have hnb : (n : Int) ≤ 288 := by omega
  have hn0 : (0 : Int) ≤ (n : Int) := by omega
  have mk := make_ints n (by omega)
  clear h hc hl hr hN hn
  go_enter Try.func9, Try.ntmps9
  go_wp2_with fail
  refine HC.out.mono ?_
  rintro e w1 ⟨rfl, hb⟩
  have HB1 := Lib.hid hb
  clear hb
  obtain ⟨R, hRd⟩ : ∃ R, w1.heap.size = R := ⟨_, rfl⟩
  have hNR : N ≤ R := by have := HB1.out.size; rw [HS.out, hRd] at this; exact this
  obtain ⟨V, hV⟩ : ∃ V, w1.alloc (.cells (rI (List.replicate n 0)) 3) = V := ⟨_, rfl⟩
  have HR2 := Lib.hid (show IRow V R (codesK l 0) by rw [HCZ.out, ← hV, ← hRd]; exact Blk.new _ _ _)
  have HVs := Lib.hid (show V.heap.size = R + 1 by rw [← hV, World.size_alloc, hRd])
  have HB2 := Lib.hid (show Below N w V by rw [← hV]; exact HB1.out.alloc (by omega) _)
  have mk1 := mk w1
  rw [hV, hRd] at mk1
  clear mk hV hRd HCZ
  go_wp2_with fail
  refine (HT.out _ (HA.out.below (HS.out ▸ HB2.out))).mono ?_
  rintro e w3 ⟨rfl, hb⟩
  have HB3 := Lib.hid (show Below N w w3 ∧ Below (R + 1) V w3 from ⟨HB2.out.trans (hb.mono (by rw [HVs.out]; omega)), hb.mono (by rw [HVs.out]; exact Nat.le_refl _)⟩)
  clear hb mk1
  go_wp2_with fail
  refine (HF.out _).mono ?_
  rintro e w4 ⟨rfl, hb⟩
  have HB4 := Lib.hid (show Below N w w4 ∧ Below (R + 1) V w4 from ⟨HB3.out.1.trans (hb.mono (by have := HB3.out.1.size; rw [HS.out] at this; exact this)), HB3.out.2.trans (hb.mono (by have := HB3.out.2.size; rw [HVs.out] at this; exact this))⟩)
  clear hb
  have HR4 := Lib.hid (show IRow w4 R (codesK l 0) from Blk.below HR2.out HB4.out.2 (by omega))
  have HQ := Lib.hid (show R + 1 ≤ w4.heap.size by have := HB4.out.2.size; rw [HVs.out] at this; exact this)
  obtain ⟨f, hf⟩ : ∃ f, fv l = f := ⟨_, rfl⟩
  have HFV := Lib.hid hf
  rw [hf]
  clear hf
  obtain ⟨Q, hQ⟩ : ∃ Q, w4.heap.size = Q := ⟨_, rfl⟩
  have HQS := Lib.hid hQ
  obtain ⟨W5, hW5⟩ : ∃ W5, w4.alloc (.cells #[.int .i64 (f 0), .int .i64 (f 1), .int .i64 (f 2), .int .i64 (f 3), .int .i64 (f 4), .int .i64 (f 5), .int .i64 (f 6), .int .i64 (f 7), .int .i64 (f 8), .int .i64 (f 9), .int .i64 (f 10), .int .i64 (f 11), .int .i64 (f 12), .int .i64 (f 13), .int .i64 (f 14), .int .i64 (f 15)] 51) = W5 := ⟨_, rfl⟩
  have HW5 := Lib.hid hW5
  have HRQ := Lib.hid (show R + 1 ≤ Q by rw [← hQ]; exact HQ.out)
  have HB5 := Lib.hid (show Below N w W5 ∧ Q + 1 ≤ W5.heap.size from ⟨by rw [← hW5]; exact HB4.out.1.alloc (by have := HQ.out; omega) _, by rw [← hW5, World.size_alloc, hQ]; exact Nat.le_refl _⟩)
  have HR5 := Lib.hid (show IRow W5 R (codesK l 0) by rw [← hW5]; exact Blk.alloc HR4.out _)
  have HX5 := Lib.hid (show Blk W5 Q 51 (ag (nx l 0)) by
    rw [ag_congr (g := f) (fun m _ => by rw [nx_zero, ← HFV.out]; rfl), ← hW5, ← hQ]
    exact Blk.new _ _ _)
  clear hQ hW5 HR4 HR2 HB1 HB2 HB3 HB4 HQ HVs HT HF HC
  unfold ag
  go_wp2_with fail
  rw [HW5.out, HQS.out]
  clear HW5 HQS HFV
  go_loopw [22] (fun iv wr => ∃ k : Nat, k ≤ n ∧ iv = .int .i64 (k : Int) ∧ Hid (Below N w wr ∧ Q + 1 ≤ wr.heap.size) ∧ Hid (IRow wr R (codesK l k)) ∧ Hid (Blk wr Q 51 (ag (nx l k)))) (fun iv _ => n - (intOf iv).toNat)
  case atStart => exact ⟨0, by omega, rfl, HB5, HR5, HX5⟩
  case round =>
    clear HB5 HR5 HX5
    obtain ⟨k, hk, rfl, HB, HI, HQ⟩ := hrel
    by_cases hlt : k < n
    · have hkl : k < l.length := by rw [HN.out]; exact hlt
      have hik : (k : Int) < (n : Int) := by omega
      have hik0 : (0 : Int) ≤ (k : Int) := by omega
      obtain ⟨b, off, rfl, _, c0⟩ := (HA.out.below (HS.out ▸ HB.out.1)) k hkl
      have hx01 := HR.out k hkl
      obtain ⟨x, hx⟩ : ∃ x : Nat, l[k] = (x : Int) := ⟨l[k].toNat, by omega⟩
      have hx15 : x ≤ 15 := by omega
      rw [hx] at c0
      clear hx01
      by_cases hx0 : x = 0
      · subst hx0
        have HI2 := Lib.hid (show IRow wr R (codesK l (k + 1)) by rw [codesK_skip l hkl hx]; exact HI.out)
        have HQ2 := Lib.hid (show Blk wr Q 51 (ag (nx l (k + 1))) by rw [ag_congr (g := nx l k) (fun m _ => nx_skip l hkl hx m)]; exact HQ.out)
        clear hx
        rw [show ((0 : Nat) : Int) = 0 from rfl] at c0
        go_wp2_with fail
        go_roundw
        case rel => exact ⟨k + 1, by omega, by go_num, HB, HI2, HQ2⟩
        case measure => simp [intOf]; omega
      · have x1 : (0 : Int) < (x : Int) := by omega
        have x2 : (x : Int) < 16 := by omega
        have x3 : (0 : Int) ≤ (x : Int) := by omega
        have a1 := (HQ.out.cell x).trans (ag_at _ x (by omega))
        have z1 := HQ.out.frozen x
        have a2 := HI.out.cell k (by rw [codesK_len]; exact hkl)
        have z2 := HI.out.frozen k
        have hb := HX.out k x (by omega) hx15
        have HRn := HRQ.out
        obtain ⟨y, hy⟩ : ∃ y, nx l k x = y := ⟨_, rfl⟩
        obtain ⟨o, ho⟩ : ∃ o, (codesK l k)[k]'(by rw [codesK_len]; exact hkl) = o := ⟨_, rfl⟩
        have HI2 := Lib.hid (show IRow ((wr.setCell ⟨R, k, none⟩ (.int .i64 y)).setCell ⟨Q, x, none⟩ (.int .i64 (y + 1))) R (codesK l (k + 1)) by
          have e := HI.out.set_ k y
          rw [← hy, ← codeAt_nx l hkl hx hx0, codesK_set] at e
          rw [codeAt_nx l hkl hx hx0, hy] at e
          exact Blk.far e (by show R ≠ Q; omega) _)
        have HQ2 := Lib.hid (show Blk ((wr.setCell ⟨R, k, none⟩ (.int .i64 y)).setCell ⟨Q, x, none⟩ (.int .i64 (y + 1))) Q 51 (ag (nx l (k + 1))) by
          have e := (HQ.out.far (p := ⟨R, k, none⟩) (by show Q ≠ R; omega) (.int .i64 y)).set_ x (.int .i64 (y + 1))
          rw [ag_set, ag_congr (g := nx l (k + 1)) (fun m _ => by rw [← hy]; exact nx_step l hkl hx hx0 m)] at e
          exact e)
        have HB2 := Lib.hid (show Below N w ((wr.setCell ⟨R, k, none⟩ (.int .i64 y)).setCell ⟨Q, x, none⟩ (.int .i64 (y + 1))) ∧ Q + 1 ≤ ((wr.setCell ⟨R, k, none⟩ (.int .i64 y)).setCell ⟨Q, x, none⟩ (.int .i64 (y + 1))).heap.size from ⟨(HB.out.1.setCell (by show N ≤ R; omega) _).setCell (by show N ≤ Q; omega) _, by simpa [World.setCell] using HB.out.2⟩)
        rw [hy] at a1 hb
        rw [ho] at a2
        clear hx hy ho hx0
        go_wp2_with fail
        go_roundw
        case rel => exact ⟨k + 1, by omega, by go_num, HB2, HI2, HQ2⟩
        case measure => simp [intOf]; omega
    · obtain rfl : k = n := by omega
      have HI1 := Lib.hid (show IRow wr R (codesL l) by unfold codesL; rw [HN.out]; exact HI.out)
      clear HI
      go_wp2_with fail
      go_ret2
      exact ⟨R, rfl, hNR, HI1.out, HB.out.1⟩
end Go.Proofs.Ytbgechfmbogbpaa
