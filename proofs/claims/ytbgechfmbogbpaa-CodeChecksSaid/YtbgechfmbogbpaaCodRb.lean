/-
  code, the document's: Codes, Cost.
-/
import Derived.Test.YtbgechfmbogbpaaCodRa
import Derived.Test.YtbgechfmbogbpaaCodW
namespace Go.Proofs.Ytbgechfmbogbpaa
open Go.RowKit Bt Cod

set_option maxRecDepth 100000 in
theorem codes10_no (A : Option Addr) (cap : Nat) (l : List Int) (w : World) (h : IAt w A l) (hl : l.length ≤ 1000000) (x : Int) (hc : chkE l = x) (hx : x ≠ 0) :
    Calls Try.prog 10 #[.slice A l.length cap] w fun e w' => e = .returned (.tuple #[.slice none 0 0, .int .i64 x]) ∧ w = w' := by
  have HC := Lib.hid (check10 A cap l w h hl)
  rw [hc] at HC
  have hx' : ¬ x = 0 := hx
  have hx2 : (x == 0) = false := by simpa using hx
  obtain ⟨n, hn⟩ : ∃ n, l.length = n := ⟨_, rfl⟩
  rw [hn] at HC ⊢
  clear hc h hl hn hx
  go_enter Try.func10, Try.ntmps10
  go_wp2_with fail
  refine HC.out.mono ?_
  rintro e w1 ⟨rfl, rfl⟩
  go_wp2_with fail
  go_ret2
  exact ⟨rfl, rfl⟩

set_option maxRecDepth 100000 in
set_option maxHeartbeats 8000000 in
theorem codes10_ok (A : Option Addr) (cap : Nat) (l : List Int) (w : World) (h : IAt w A l) (hc : chkE l = 0) :
    Calls Try.prog 10 #[.slice A l.length cap] w fun e w' => ∃ R : Nat, e = .returned (.tuple #[.slice (some ⟨R, 0, none⟩) l.length l.length, .int .i64 0]) ∧ w.heap.size ≤ R ∧ IRow w' R (codesL l) ∧ Below w.heap.size w w' := by
  obtain ⟨hl, hr, _⟩ := chk_ok hc
  have HC := Lib.hid (check10 A cap l w h (by omega))
  rw [hc] at HC
  have HA := Lib.hid h
  have HR := Lib.hid (fun k hk => range_at hr k hk)
  have HX := Lib.hid (fun k n h1 h2 => nx_le l (by omega) k n h1 h2)
  have HCZ := Lib.hid (rcK_start l)
  have HCE := Lib.hid (rcK_end l hr)
  have HCN := Lib.hid (fun b => rcK_next l b)
  have HNA := Lib.hid (fun b (hb : 1 ≤ b) => nx_all l hb)
  obtain ⟨N, hN⟩ : ∃ N, w.heap.size = N := ⟨_, rfl⟩
  have HS := Lib.hid hN
  obtain ⟨n, hn⟩ : ∃ n, l.length = n := ⟨_, rfl⟩
  have HN := Lib.hid hn
  rw [hn] at HC HCZ HCN HNA ⊢
  rw [hN]
  have hnb : (n : Int) ≤ 288 := by omega
  have hn0 : (0 : Int) ≤ (n : Int) := by omega
  have mk := make_ints n (by omega) w
  rw [hN] at mk
  obtain ⟨V, hV⟩ : ∃ V, w.alloc (.cells (rI (List.replicate n 0)) 3) = V := ⟨_, rfl⟩
  have HR2 := Lib.hid (show IRow V N (rcK l 1 0) by rw [HCZ.out, ← hV, ← hN]; exact Blk.new _ _ _)
  have HB2 := Lib.hid (show Below N w V ∧ N + 1 ≤ V.heap.size from ⟨by rw [← hV, ← hN]; exact (Below.refl _ w).alloc (Nat.le_refl _) _, by rw [← hV, World.size_alloc, hN]; exact Nat.le_refl _⟩)
  rw [hV] at mk
  have hnx0 : nx l 0 1 = 0 := by rw [nx_zero]; rfl
  have HX0 := Lib.hid hnx0
  clear h hc hl hr hN hn hV HCZ hnx0
  go_enter Try.func10, Try.ntmps10
  go_wp2_with fail
  refine HC.out.mono ?_
  rintro e w1 ⟨rfl, rfl⟩
  go_wp2_with fail
  clear mk HC
  go_loopw [6, 7] (fun sv iv wr => ∃ b : Nat, 1 ≤ b ∧ b ≤ 16 ∧ sv = .int .i64 (nx l 0 b) ∧ iv = .int .i64 (b : Int) ∧ Hid (Below N w wr ∧ N + 1 ≤ wr.heap.size) ∧ Hid (IRow wr N (rcK l b 0))) (fun _ iv _ => 16 - (intOf iv).toNat)
  case atStart => exact ⟨1, by decide, by decide, by rw [HX0.out], rfl, HB2, HR2⟩
  case round =>
    clear HB2 HR2 HX0
    obtain ⟨b, hb1, hb16, rfl, rfl, HB, HI⟩ := hrel
    by_cases hb : b ≤ 15
    · have hbI : (b : Int) ≤ 15 := by omega
      have hbI1 : (1 : Int) ≤ (b : Int) := by omega
      go_wp2_with fail
      go_loopw [6, 8] (fun sv iv wr => ∃ k : Nat, k ≤ n ∧ sv = .int .i64 (nx l k b) ∧ iv = .int .i64 (k : Int) ∧ Hid (Below N w wr ∧ N + 1 ≤ wr.heap.size) ∧ Hid (IRow wr N (rcK l b k))) (fun _ iv _ => n - (intOf iv).toNat)
      case atStart => exact ⟨0, by omega, rfl, rfl, HB, HI⟩
      case round =>
        clear HB HI
        obtain ⟨k, hk, rfl, rfl, HB, HI⟩ := hrel
        have hxb := HX.out k b hb1 hb
        by_cases hlt : k < n
        · have hkl : k < l.length := by rw [HN.out]; exact hlt
          have hik : (k : Int) < (n : Int) := by omega
          have hik0 : (0 : Int) ≤ (k : Int) := by omega
          obtain ⟨b0, off, rfl, _, c0⟩ := (HA.out.below (HS.out ▸ HB.out.1)) k hkl
          have hx01 := HR.out k hkl
          by_cases hx : l[k] = (b : Int)
          · have HH := Lib.hid (show (rcK l b k).set k (nx l k b) = rcK l b (k + 1) by
              rw [← codeAt_nx l hkl hx (by omega)]
              exact rcK_hit l (by omega) hkl hx)
            have HXS := Lib.hid (nx_hit l hkl hx (by omega))
            have a2 := HI.out.cell k (by rw [rcK_len]; exact hkl)
            have z2 := HI.out.frozen k
            obtain ⟨ov, ho⟩ : ∃ o, (rcK l b k)[k]'(by rw [rcK_len]; exact hkl) = o := ⟨_, rfl⟩
            obtain ⟨y, hy⟩ : ∃ y, nx l k b = y := ⟨_, rfl⟩
            rw [hy] at HH HXS hxb ⊢
            rw [ho] at a2
            rw [hx] at c0
            have HI2 := Lib.hid (show IRow (wr.setCell ⟨N, k, none⟩ (.int .i64 y)) N (rcK l b (k + 1)) by
              have e := HI.out.set_ k y
              rw [HH.out] at e
              exact e)
            have HB2 := Lib.hid (show Below N w (wr.setCell ⟨N, k, none⟩ (.int .i64 y)) ∧ N + 1 ≤ (wr.setCell ⟨N, k, none⟩ (.int .i64 y)).heap.size from ⟨HB.out.1.setCell (by show N ≤ N; omega) _, by simpa [World.setCell] using HB.out.2⟩)
            obtain ⟨hy0, hy1⟩ := hxb
            clear hx hx01 ho hy
            go_wp2_with fail
            go_roundw
            case rel => exact ⟨k + 1, by omega, by rw [HXS.out] <;> rfl, by go_num, HB2, HI2⟩
            case measure => simp [intOf]; omega
          · have HXS := Lib.hid (nx_miss l hkl hx01.1 hx)
            have HI2 := Lib.hid (show IRow wr N (rcK l b (k + 1)) by rw [rcK_skip l hkl hx]; exact HI.out)
            obtain ⟨x, hxx⟩ : ∃ x, l[k] = x := ⟨_, rfl⟩
            obtain ⟨y, hy⟩ : ∃ y, nx l k b = y := ⟨_, rfl⟩
            rw [hy] at HXS ⊢
            rw [hxx] at c0 hx
            clear hxx hx01 hy hxb
            go_wp2_with fail
            go_roundw
            case rel => exact ⟨k + 1, by omega, by rw [HXS.out] <;> rfl, by go_num, HB, HI2⟩
            case measure => simp [intOf]; omega
        · obtain rfl : k = n := by omega
          have HI2 := Lib.hid (show IRow wr N (rcK l (b + 1) 0) by rw [← HCN.out b]; exact HI.out)
          have HXN := Lib.hid (HNA.out b hb1)
          obtain ⟨y, hy⟩ : ∃ y, nx l k b = y := ⟨_, rfl⟩
          rw [hy] at HXN hxb ⊢
          obtain ⟨hy0, hy1⟩ := hxb
          clear hy
          go_wp2_with fail
          go_roundw
          case rel => exact ⟨b + 1, by omega, by omega, by rw [← HXN.out] <;> rfl, by go_num, HB, HI2⟩
          case measure => simp [intOf]; omega
    · obtain rfl : b = 16 := by omega
      have HI1 := Lib.hid (show IRow wr N (codesL l) by rw [← HCE.out]; exact HI.out)
      clear HI
      obtain ⟨y, hy⟩ : ∃ y, nx l 0 16 = y := ⟨_, rfl⟩
      rw [hy]
      clear hy
      go_wp2_with fail
      go_ret2
      exact ⟨N, rfl, Nat.le_refl _, HI1.out, HB.out.1⟩

set_option maxRecDepth 100000 in
set_option maxHeartbeats 8000000 in
theorem cost10 (A B : Option Addr) (ca cb : Nat) (l m : List Int) (w : World) (hA : IAt w A l) (hB : IAt w B m) (hl : l.length ≤ 1000000) (hm : m.length ≤ 1000000) :
    Calls Try.prog 16 #[.slice A l.length ca, .slice B m.length cb] w fun e w' => e = .returned (.int .i64 (costK l m (min l.length m.length))) ∧ Below w.heap.size w w' := by
  obtain ⟨n, hn⟩ : ∃ n, min l.length m.length = n := ⟨_, rfl⟩
  have HNl := Lib.hid (show n ≤ l.length by omega)
  have HNm := Lib.hid (show n ≤ m.length by omega)
  have hnb : n ≤ 1000000 := by omega
  have HCB := Lib.hid (costK_le l m)
  have HKS := Lib.hid (show ∀ k : Nat, costK l m (k + 1) = costK l m k + costAt (l.getD k 0) (m.getD k 0) from fun k => rfl)
  rw [hn]
  obtain ⟨p, hp⟩ : ∃ p, l.length = p := ⟨_, rfl⟩
  obtain ⟨q, hq⟩ : ∃ q, m.length = q := ⟨_, rfl⟩
  rw [hp, hq]
  have HA := Lib.hid hA
  have HB := Lib.hid hB
  have HPQ := Lib.hid (show n ≤ p ∧ n ≤ q ∧ (n = p ∨ n = q) by omega)
  clear hn hp hq hA hB hl hm
  have hnI : (n : Int) ≤ 1000000 := by omega
  go_enter Try.func16, Try.ntmps16
  go_wp2_with fail
  go_loopw [5, 6] (fun sv iv wr => ∃ k : Nat, k ≤ n ∧ sv = .int .i64 (costK l m k) ∧ iv = .int .i64 (k : Int) ∧ Hid (Below w.heap.size w wr)) (fun _ iv _ => n - (intOf iv).toNat)
  case atStart => exact ⟨0, by omega, rfl, rfl, Lib.hid (Below.refl _ _)⟩
  case round =>
    obtain ⟨k, hk, rfl, rfl, HW⟩ := hrel
    by_cases hlt : k < n
    · have hkl : k < l.length := Nat.lt_of_lt_of_le hlt HNl.out
      have hkm : k < m.length := Nat.lt_of_lt_of_le hlt HNm.out
      have hikp : (k : Int) < (p : Int) := by have := HPQ.out; omega
      have hikq : (k : Int) < (q : Int) := by have := HPQ.out; omega
      have hik0 : (0 : Int) ≤ (k : Int) := by omega
      obtain ⟨b1, o1, rfl, _, c0⟩ := (HA.out.below HW.out) k hkl
      obtain ⟨b2, o2, rfl, _, c1⟩ := (HB.out.below HW.out) k hkm
      have HS := Lib.hid (HKS.out k)
      rw [gd l hkl, gd m hkm] at HS
      have hcb := HCB.out k
      obtain ⟨x, hx⟩ : ∃ x, l[k] = x := ⟨_, rfl⟩
      obtain ⟨y, hy⟩ : ∃ y, m[k] = y := ⟨_, rfl⟩
      obtain ⟨c, hc⟩ : ∃ c, costK l m k = c := ⟨_, rfl⟩
      rw [hx, hy, hc] at HS
      rw [hx] at c0
      rw [hy] at c1
      rw [hc] at hcb ⊢
      have hct := costAt_le x y
      have hcat : costAt x y = if (decide (0 ≤ x) && decide (x ≤ 15)) && (decide (0 ≤ y) && decide (y ≤ 2147483647)) then x * y else 0 := rfl
      have hc1 : c ≤ 40000000000000000 := by omega
      clear hx hy hc
      have miss : costAt x y = 0 → costK l m (k + 1) = c := fun h => by rw [HS.out, h, Int.add_zero]
      have HMs := Lib.hid miss
      clear miss
      by_cases h1 : 0 ≤ x
      · by_cases h2 : x ≤ 15
        · by_cases h3 : 0 ≤ y
          · by_cases h4 : y ≤ 2147483647
            · rw [decide_eq_true h1, decide_eq_true h2, decide_eq_true h3, decide_eq_true h4] at hcat
              have hcy : costAt x y = x * y := hcat
              obtain ⟨t, ht⟩ : ∃ t, x * y = t := ⟨_, rfl⟩
              rw [hcy, ht] at HS hct
              have HTW := Lib.hid (show wrap64 (x * y) = t by rw [ht]; exact w64 _ (by omega))
              have hc0 : 0 ≤ c := by omega
              have ht0 : 0 ≤ t := by omega
              have ht3 : t ≤ 32212254705 := by omega
              have HWC := Lib.hid (show wrap64 (c + t) = c + t from w64 _ (by omega))
              clear hcat hcy ht hct hcb HMs
              go_wp2_with fail
              go_quiet (fail)
              go_wp2_with (rw [HTW.out])
              go_roundw
              case rel => exact ⟨k + 1, by omega, by rw [HS.out, HWC.out] <;> rfl, by go_num, Lib.hid (below_drewN HW.out _)⟩
              case measure => simp [intOf]; omega
            · rw [decide_eq_false h4, Bool.and_false, Bool.and_false] at hcat
              have HS2 := Lib.hid (HMs.out hcat)
              clear hcat hct hcb HMs
              go_wp2_with fail
              go_roundw
              case rel => exact ⟨k + 1, by omega, by rw [HS2.out] <;> rfl, by go_num, HW⟩
              case measure => simp [intOf]; omega
          · rw [decide_eq_false h3, Bool.false_and, Bool.and_false] at hcat
            have HS2 := Lib.hid (HMs.out hcat)
            clear hcat hct hcb HMs
            go_wp2_with fail
            go_roundw
            case rel => exact ⟨k + 1, by omega, by rw [HS2.out] <;> rfl, by go_num, HW⟩
            case measure => simp [intOf]; omega
        · rw [decide_eq_false h2, Bool.and_false, Bool.false_and] at hcat
          have HS2 := Lib.hid (HMs.out hcat)
          clear hcat hct hcb HMs
          go_wp2_with fail
          go_roundw
          case rel => exact ⟨k + 1, by omega, by rw [HS2.out] <;> rfl, by go_num, HW⟩
          case measure => simp [intOf]; omega
      · rw [decide_eq_false h1, Bool.false_and, Bool.false_and] at hcat
        have HS2 := Lib.hid (HMs.out hcat)
        clear hcat hct hcb HMs
        go_wp2_with fail
        go_roundw
        case rel => exact ⟨k + 1, by omega, by rw [HS2.out] <;> rfl, by go_num, HW⟩
        case measure => simp [intOf]; omega
    · obtain rfl : k = n := by omega
      have hpq := HPQ.out
      by_cases hkp : k < p
      · have hI : (k : Int) < (p : Int) := by omega
        obtain rfl : k = q := by omega
        go_wp2_with fail
        go_ret
        exact ⟨rfl, HW.out⟩
      · obtain rfl : k = p := by omega
        go_wp2_with fail
        go_ret
        exact ⟨rfl, HW.out⟩
end Go.Proofs.Ytbgechfmbogbpaa
