/-
  hint's encoded: the walk.
-/
import Derived.Test.YtkcnhdponcbjaaaHntF
import Derived.Laws.EntriesVeiled
namespace Go.Proofs.Ytkcnhdponcbjaaa
open Go.RowKit Bt Hnt

set_option maxRecDepth 100000 in
set_option maxHeartbeats 16000000 in
theorem encoded_any (A : Option Addr) (cap : Nat) (l : List H3) (w : World) (h : HAt w A l) (hne : l ≠ []) (hl : l.length ≤ 2048) (hok : allOk l) :
    Calls Try.prog 21 #[.slice A l.length cap] w fun e w' => e = .returned (.string ⟨(textS l).toArray⟩) ∧ Below w.heap.size w w' := by
  have hmf : ∀ (fn : Fn) (first cap : Array Value) (w : World), (Instr.makeFunc fn first cap).run Try.prog w = .ok (.func fn first cap) w := fun _ _ _ _ => rfl
  obtain ⟨N, hN⟩ : ∃ N, w.heap.size = N := ⟨_, rfl⟩
  obtain ⟨n, hn⟩ : ∃ n, l.length = n := ⟨_, rfl⟩
  obtain ⟨R, hR⟩ : ∃ R : ByteArray, ⟨(textS l).toArray⟩ = R := ⟨_, rfl⟩
  have HRs := Lib.hid hR
  have HN := Lib.hid hn
  have HNs := Lib.hid hN
  have H0 := Lib.hid (fun (W : World) (hb : Below N w W) => h.below (hN ▸ hb))
  have PNew := Lib.hid (wnew_c N N w (by omega) hN)
  have PSp := Lib.hid (fun (W : World) (hb : Below N w W) => spread_any A cap l W (h.below (hN ▸ hb)) hne hl hok)
  have HOk := Lib.hid hok
  have HNe := Lib.hid hne
  have HL := Lib.hid hl
  obtain ⟨la, hla⟩ : ∃ v, lst 0 l = v := ⟨_, rfl⟩
  obtain ⟨lb, hlb⟩ : ∃ v, lst 1 l = v := ⟨_, rfl⟩
  obtain ⟨lc, hlc⟩ : ∃ v, lst 2 l = v := ⟨_, rfl⟩
  obtain ⟨W0, hW0⟩ : ∃ v, wdt 0 l = v := ⟨_, rfl⟩
  obtain ⟨W1, hW1⟩ : ∃ v, wdt 1 l = v := ⟨_, rfl⟩
  obtain ⟨W2, hW2⟩ : ∃ v, wdt 2 l = v := ⟨_, rfl⟩
  rw [hla, hlb, hlc, hW0, hW1, hW2, hn] at PSp
  have Ela := Lib.hid hla
  have Elb := Lib.hid hlb
  have Elc := Lib.hid hlc
  have EW0 := Lib.hid hW0
  have EW1 := Lib.hid hW1
  have EW2 := Lib.hid hW2
  have hnb : (n : Int) ≤ 2048 := by omega
  rw [hN, hn, hR]
  clear h hne hok hl hR hn hla hlb hlc hW0 hW1 hW2
  go_enter Try.func21, Try.ntmps21
  go_wp2_with fail
  refine PNew.out.mono ?_
  rintro e w1 ⟨rfl, hg, hw, hs⟩
  have HG1 := Lib.hid hg
  have HW1 := Lib.hid hw
  have HS1 := Lib.hid hs
  clear hg hw hN PNew
  obtain ⟨V, hV⟩ : ∃ V, (w1.alloc (.cells #[.pointer (some ⟨N, 0, none⟩)] 63)).alloc (.cells #[putV (N + 1)] 66) = V := ⟨_, rfl⟩
  have HVs := Lib.hid (show V.heap.size = N + 3 by rw [← hV, World.size_alloc, World.size_alloc, hs])
  have HVB := Lib.hid (show Below (N + 1) w1 V by rw [← hV]; exact ((Below.refl _ w1).alloc (by omega) _).alloc (by simp; omega) _)
  have HV1 := Lib.hid (show Blk V (N + 1) 63 #[.pointer (some ⟨N, 0, none⟩)] by rw [← hV, ← hs]; exact (Blk.new w1 _ _).alloc _)
  have HV2 := Lib.hid (show Blk V (N + 2) 66 #[putV (N + 1)] by
    rw [← hV]
    have := Blk.new (w1.alloc (.cells #[.pointer (some ⟨N, 0, none⟩)] 63)) 66 #[putV (N + 1)]
    rw [World.size_alloc, hs] at this
    exact this)
  have HVN := Lib.hid (show Below N w V from (show Below N w w1 from ⟨HG1.out.os, HG1.out.tape, HG1.out.output, HG1.out.size, fun k hk => HG1.out.block k (by rw [HNs.out]; exact hk) (by simp)⟩).trans (HVB.out.mono (by omega)))
  unfold putV at hV
  go_upto_region 3 with fail
  rw [show N + 1 + 1 = N + 2 from rfl]
  clear hV hs
  go_wp2_with fail
  refine (PSp.out V HVN.out).mono ?_
  rintro e w2 ⟨rfl, hb⟩
  have HB2 := Lib.hid hb
  clear hb
  obtain ⟨mL, hmL⟩ : ∃ m, w2.heap.size = m := ⟨_, rfl⟩
  have HmL := Lib.hid (show N + 3 ≤ mL by have := HB2.out.size; rw [HVs.out, hmL] at this; exact this)
  obtain ⟨U, hU⟩ : ∃ U, (w2.alloc (.cells #[.int .i64 la, .int .i64 lb, .int .i64 lc] 61)).alloc (.cells #[.int .i64 (W0 : Nat), .int .i64 (W1 : Nat), .int .i64 (W2 : Nat)] 61) = U := ⟨_, rfl⟩
  have HUB := Lib.hid (show Below mL w2 U by rw [← hU, ← hmL]; exact ((Below.refl _ w2).alloc (Nat.le_refl _) _).alloc (by simp) _)
  have HUs := Lib.hid (show U.heap.size = mL + 2 by rw [← hU, World.size_alloc, World.size_alloc, hmL])
  have HAL := Lib.hid (show A3 U mL la lb lc by rw [← hU, ← hmL]; exact (Blk.new w2 _ _).alloc _)
  have HAW := Lib.hid (show A3 U (mL + 1) (W0 : Nat) (W1 : Nat) (W2 : Nat) by
    rw [← hU]
    have := Blk.new (w2.alloc (.cells #[.int .i64 la, .int .i64 lb, .int .i64 lc] 61)) 61 #[.int .i64 (W0 : Nat), .int .i64 (W1 : Nat), .int .i64 (W2 : Nat)]
    rw [World.size_alloc, hmL] at this
    exact this)
  have HVU := Lib.hid (show Below (N + 3) V U from (HB2.out.mono (by rw [HVs.out]; exact Nat.le_refl _)).trans (HUB.out.mono HmL.out))
  have HU1 := Lib.hid (Blk.below HV1.out HVU.out (by omega))
  have HU2 := Lib.hid (Blk.below HV2.out HVU.out (by omega))
  have HUN := Lib.hid (HVN.out.trans (HVU.out.mono (by omega)))
  have HW0 := Lib.hid (show WroteS N U N none st0 U from ⟨none, Or.inl rfl, (show WrS N w1 N none st0 from HW1.out).grown (show w1.grownBy U none from below_grown (by rw [HS1.out]; exact HVB.out.trans (HVU.out.mono (by omega)))) (by simp) (Or.inl rfl), Two.refl _ _ _⟩)
  go_upto_region 5 with fail
  try rw [hU]
  try rw [hmL]
  clear hU hmL
  have PL := Lib.hid (fun (st : St) (v : Int) (w' : World) (h : WroteS N U N none st w') (hg : good st) (hl : st.1.length ≤ 800000) (hv : 0 ≤ v) (hv2 : v ≤ 1048576) => hlong_any N N (N + 1) (N + 2) st v U w' HU1.out HU2.out (by omega) (by omega) (by rw [HUs.out]; have := HmL.out; omega) h hg hl hv hv2)
  have PP := Lib.hid (fun (st : St) (v n : Int) (w' : World) (h : WroteS N U N none st w') (hg : good st) (hl : st.1.length ≤ 900000) (hv : 0 ≤ v) (hn : 0 ≤ n) (hn2 : n ≤ 24) (hlt : v < 2 ^ n.toNat) => hput_any N N (N + 1) st v n U w' (h.blk HU1.out (by omega)) (by rw [HUs.out]; have := HmL.out; omega) h hg hl hv hn hn2 hlt)
  have HK := Lib.hid (fun (st : St) (w' : World) (h : WroteS N U N none st w') => (show Blk w' (N + 1) 63 #[.pointer (some ⟨N, 0, none⟩)] ∧ Blk w' (N + 2) 66 #[putV (N + 1)] ∧ A3 w' mL la lb lc ∧ A3 w' (mL + 1) (W0 : Nat) (W1 : Nat) (W2 : Nat) from
    ⟨h.blk HU1.out (by omega), h.blk HU2.out (by omega), h.blk HAL.out (by have := HmL.out; omega), h.blk HAW.out (by have := HmL.out; omega)⟩))
  have HGd := Lib.hid (fun (j : Nat) (hj : j ≤ 3) => (show good (hdS l j) ∧ (hdS l j).1.length ≤ 800000 from ⟨good_hd HOk.out HNe.out HL.out j hj, by have := hd_len l j; omega⟩))
  have HGw := Lib.hid (fun (j : Nat) (hj : j ≤ 3) => (show good (wdS l j) ∧ (wdS l j).1.length ≤ 900000 from ⟨good_wd HOk.out HNe.out HL.out j hj, by have := wd_len l j; omega⟩))
  have HGc := Lib.hid (fun (c k : Nat) (hc : c < 3) (hk : k ≤ l.length) => (show good (colS c (lst c l) (wdt c l) l (colsS l (wdS l 3) c) k) ∧ (colS c (lst c l) (wdt c l) l (colsS l (wdS l 3) c) k).1.length ≤ 900000 from
    ⟨good_col HOk.out HNe.out hc (good_cols (good_wd HOk.out HNe.out HL.out 3 (by omega)) c) k hk, by
      have h1 := col_len c (lst c l) (wdt c l) l (colsS l (wdS l 3) c) k
      have h2 := cols_len l (wdS l 3) c
      have h3 := wd_len l 3
      have h4 := HL.out
      have h5 : 24 * l.length * c ≤ 24 * l.length * 3 := Nat.mul_le_mul_left _ (by omega)
      omega⟩))
  go_wp2_with fail
  refine (PL.out st0 (n : Int) _ HW0.out good0 (by decide) (by omega) (by omega)).mono ?_
  rintro e w3 ⟨rfl, hw⟩
  have S0 := Lib.hid (show WroteS N U N none (hdS l 0) w3 by rw [show hdS l 0 = putLong st0 (l.length : Int) from rfl, HN.out]; exact hw)
  clear hw
  have ix0 : ∀ w : World, (Instr.index 61 (.agg #[.int .i64 la, .int .i64 lb, .int .i64 lc]) (.int .i64 0)).run Try.prog w = .ok (.int .i64 la) w := fun _ => by kernel_rfl
  have ix1 : ∀ w : World, (Instr.index 61 (.agg #[.int .i64 la, .int .i64 lb, .int .i64 lc]) (.int .i64 1)).run Try.prog w = .ok (.int .i64 lb) w := fun _ => by kernel_rfl
  have ix2 : ∀ w : World, (Instr.index 61 (.agg #[.int .i64 la, .int .i64 lb, .int .i64 lc]) (.int .i64 2)).run Try.prog w = .ok (.int .i64 lc) w := fun _ => by kernel_rfl
  obtain ⟨p0, p1, p2⟩ := (HK.out _ _ S0.out).2.2.1.cells
  go_wp2_with fail
  clear p0 p1 p2
  go_loopw [28] (fun i wr => ∃ j : Nat, j ≤ 3 ∧ i = .int .i64 (j : Int) ∧ Hid (WroteS N U N none (hdS l j) wr)) (fun i _ => 3 - (intOf i).toNat)
  case atStart => exact ⟨0, by omega, rfl, S0⟩
  case round =>
    obtain ⟨j, hj, rfl, S⟩ := hrel
    have hcs : j = 0 ∨ j = 1 ∨ j = 2 ∨ j = 3 := by omega
    rcases hcs with hj1 | hj1 | hj1 | hj1
    · obtain rfl : j = 0 := by omega
      have hb := lst_in HOk.out HNe.out (c := 0) (by omega)
      have hgd := HGd.out 0 (by omega)
      rw [Ela.out] at hb
      have P := Lib.hid (PL.out (hdS l 0) la wr S.out hgd.1 hgd.2 hb.1 hb.2)
      clear hb hgd
      go_wp2_with fail
      refine P.out.mono ?_
      rintro e w5 ⟨rfl, hw⟩
      have S2 := Lib.hid (show WroteS N U N none (hdS l (0 + 1)) w5 by rw [show hdS l (0 + 1) = putLong (hdS l 0) (lst 0 l) from rfl, Ela.out]; exact hw)
      clear hw
      go_wp2_with fail
      go_roundw
      case rel => exact ⟨1, by omega, by go_num, S2⟩
      case measure => simp [intOf]
    · obtain rfl : j = 1 := by omega
      have hb := lst_in HOk.out HNe.out (c := 1) (by omega)
      have hgd := HGd.out 1 (by omega)
      rw [Elb.out] at hb
      have P := Lib.hid (PL.out (hdS l 1) lb wr S.out hgd.1 hgd.2 hb.1 hb.2)
      clear hb hgd
      go_wp2_with fail
      refine P.out.mono ?_
      rintro e w5 ⟨rfl, hw⟩
      have S2 := Lib.hid (show WroteS N U N none (hdS l (1 + 1)) w5 by rw [show hdS l (1 + 1) = putLong (hdS l 1) (lst 1 l) from rfl, Elb.out]; exact hw)
      clear hw
      go_wp2_with fail
      go_roundw
      case rel => exact ⟨2, by omega, by go_num, S2⟩
      case measure => simp [intOf]
    · obtain rfl : j = 2 := by omega
      have hb := lst_in HOk.out HNe.out (c := 2) (by omega)
      have hgd := HGd.out 2 (by omega)
      rw [Elc.out] at hb
      have P := Lib.hid (PL.out (hdS l 2) lc wr S.out hgd.1 hgd.2 hb.1 hb.2)
      clear hb hgd
      go_wp2_with fail
      refine P.out.mono ?_
      rintro e w5 ⟨rfl, hw⟩
      have S2 := Lib.hid (show WroteS N U N none (hdS l (2 + 1)) w5 by rw [show hdS l (2 + 1) = putLong (hdS l 2) (lst 2 l) from rfl, Elc.out]; exact hw)
      clear hw
      go_wp2_with fail
      go_roundw
      case rel => exact ⟨3, by omega, by go_num, S2⟩
      case measure => simp [intOf]
    · obtain rfl : j = 3 := by omega
      clear ix0 ix1 ix2
      have jx0 : ∀ w : World, (Instr.index 61 (.agg #[.int .i64 (W0 : Nat), .int .i64 (W1 : Nat), .int .i64 (W2 : Nat)]) (.int .i64 0)).run Try.prog w = .ok (.int .i64 (W0 : Nat)) w := fun _ => by kernel_rfl
      have jx1 : ∀ w : World, (Instr.index 61 (.agg #[.int .i64 (W0 : Nat), .int .i64 (W1 : Nat), .int .i64 (W2 : Nat)]) (.int .i64 1)).run Try.prog w = .ok (.int .i64 (W1 : Nat)) w := fun _ => by kernel_rfl
      have jx2 : ∀ w : World, (Instr.index 61 (.agg #[.int .i64 (W0 : Nat), .int .i64 (W1 : Nat), .int .i64 (W2 : Nat)]) (.int .i64 2)).run Try.prog w = .ok (.int .i64 (W2 : Nat)) w := fun _ => by kernel_rfl
      obtain ⟨p0, p1, p2⟩ := (HK.out _ _ S.out).2.2.2.cells
      rw [show ((3 : Nat) : Int) = 3 from rfl]
      go_wp2_with fail
      clear p0 p1 p2
      go_loopw [36] (fun i wr => ∃ j : Nat, j ≤ 3 ∧ i = .int .i64 (j : Int) ∧ Hid (WroteS N U N none (wdS l j) wr)) (fun i _ => 3 - (intOf i).toNat)
      case atStart => exact ⟨0, by omega, rfl, S⟩
      case round =>
        clear S
        obtain ⟨j, hj, rfl, S⟩ := hrel
        have hcs : j = 0 ∨ j = 1 ∨ j = 2 ∨ j = 3 := by omega
        rcases hcs with hj1 | hj1 | hj1 | hj1
        · obtain rfl : j = 0 := by omega
          have hb := wdt_le HOk.out HNe.out (c := 0) (by omega)
          have hgd := HGw.out 0 (by omega)
          rw [EW0.out] at hb
          have P := Lib.hid (PP.out (wdS l 0) (W0 : Nat) 16 wr S.out hgd.1 hgd.2 (by omega) (by omega) (by omega) (by rw [two16]; omega))
          have b4 := (HK.out _ _ S.out).2.1.cell 0
          simp only [List.getElem?_toArray, List.getElem?_cons_zero] at b4
          unfold putV at b4
          clear hb hgd
          go_wp2_with fail
          refine P.out.mono ?_
          rintro e w5 ⟨rfl, hw⟩
          have S2 := Lib.hid (show WroteS N U N none (wdS l (0 + 1)) w5 by rw [show wdS l (0 + 1) = put (wdS l 0) (wdt 0 l : Nat) 16 from rfl, EW0.out]; exact hw)
          clear hw b4
          go_wp2_with fail
          go_roundw
          case rel => exact ⟨1, by omega, by go_num, S2⟩
          case measure => simp [intOf]
        · obtain rfl : j = 1 := by omega
          have hb := wdt_le HOk.out HNe.out (c := 1) (by omega)
          have hgd := HGw.out 1 (by omega)
          rw [EW1.out] at hb
          have P := Lib.hid (PP.out (wdS l 1) (W1 : Nat) 16 wr S.out hgd.1 hgd.2 (by omega) (by omega) (by omega) (by rw [two16]; omega))
          have b4 := (HK.out _ _ S.out).2.1.cell 0
          simp only [List.getElem?_toArray, List.getElem?_cons_zero] at b4
          unfold putV at b4
          clear hb hgd
          go_wp2_with fail
          refine P.out.mono ?_
          rintro e w5 ⟨rfl, hw⟩
          have S2 := Lib.hid (show WroteS N U N none (wdS l (1 + 1)) w5 by rw [show wdS l (1 + 1) = put (wdS l 1) (wdt 1 l : Nat) 16 from rfl, EW1.out]; exact hw)
          clear hw b4
          go_wp2_with fail
          go_roundw
          case rel => exact ⟨2, by omega, by go_num, S2⟩
          case measure => simp [intOf]
        · obtain rfl : j = 2 := by omega
          have hb := wdt_le HOk.out HNe.out (c := 2) (by omega)
          have hgd := HGw.out 2 (by omega)
          rw [EW2.out] at hb
          have P := Lib.hid (PP.out (wdS l 2) (W2 : Nat) 16 wr S.out hgd.1 hgd.2 (by omega) (by omega) (by omega) (by rw [two16]; omega))
          have b4 := (HK.out _ _ S.out).2.1.cell 0
          simp only [List.getElem?_toArray, List.getElem?_cons_zero] at b4
          unfold putV at b4
          clear hb hgd
          go_wp2_with fail
          refine P.out.mono ?_
          rintro e w5 ⟨rfl, hw⟩
          have S2 := Lib.hid (show WroteS N U N none (wdS l (2 + 1)) w5 by rw [show wdS l (2 + 1) = put (wdS l 2) (wdt 2 l : Nat) 16 from rfl, EW2.out]; exact hw)
          clear hw b4
          go_wp2_with fail
          go_roundw
          case rel => exact ⟨3, by omega, by go_num, S2⟩
          case measure => simp [intOf]
        · obtain rfl : j = 3 := by omega
          clear jx0 jx1 jx2
          rw [show ((3 : Nat) : Int) = 3 from rfl]
          go_wp2_with fail
          go_loopw [43] (fun i wr => ∃ j : Nat, j ≤ 3 ∧ i = .int .i64 (j : Int) ∧ Hid (WroteS N U N none (colsS l (wdS l 3) j) wr)) (fun i _ => 3 - (intOf i).toNat)
          case atStart => exact ⟨0, by omega, rfl, S⟩
          case round =>
            clear S
            obtain ⟨j, hj, rfl, S⟩ := hrel
            have hcs : j = 0 ∨ j = 1 ∨ j = 2 ∨ j = 3 := by omega
            rcases hcs with hj1 | hj1 | hj1 | hj1
            · obtain rfl : j = 0 := by omega
              go_wp2_with fail
              go_loopw [48] (fun i wq => ∃ k : Nat, k ≤ n ∧ i = .int .i64 (k : Int) ∧ Hid (WroteS N U N none (colS 0 (lst 0 l) (wdt 0 l) l (colsS l (wdS l 3) 0) k) wq)) (fun i _ => n - (intOf i).toNat)
              case atStart => exact ⟨0, by omega, rfl, S⟩
              case round =>
                clear S
                obtain ⟨k, hk, rfl, S⟩ := hrel
                by_cases hlt : k < n
                · have hkl : k < l.length := by rw [HN.out]; exact hlt
                  obtain ⟨b, off, rfl, hbs, c0, c1, c2⟩ := H0.out wr (HUN.out.trans (S.out.below (Nat.le_refl N) (by rw [HUs.out]; have := HmL.out; omega))) k hkl
                  obtain ⟨x, hx⟩ : ∃ x, l[k].1 = x := ⟨_, rfl⟩
                  obtain ⟨y, hy⟩ : ∃ y, l[k].2.1 = y := ⟨_, rfl⟩
                  obtain ⟨z, hz⟩ : ∃ z, l[k].2.2 = z := ⟨_, rfl⟩
                  have HE := Lib.hid (show l[k] = (x, y, z) by rw [← hx, ← hy, ← hz])
                  rw [hx] at c0
                  rw [hy] at c1
                  rw [hz] at c2
                  have hd := diff_in (List.getElem_mem hkl) 0
                  have hxb := (okH_iff _).1 (HOk.out _ (List.getElem_mem hkl)) 0 (by omega)
                  have hlb := lst_in HOk.out HNe.out (c := 0) (by omega)
                  have hwb := wdt_le HOk.out HNe.out (c := 0) (by omega)
                  rw [HE.out, Ela.out, EW0.out, show clm 0 (x, y, z) = x from rfl] at hd
                  rw [HE.out, show clm 0 (x, y, z) = x from rfl] at hxb
                  have hm1 : mostC 0 ≤ 1048576 := by decide
                  rw [Ela.out] at hlb
                  rw [EW0.out] at hwb
                  obtain ⟨dv, hdv⟩ : ∃ v, x - la = v := ⟨_, rfl⟩
                  have GW := Lib.hid (show IntKind.i64.wrap (x - la) = dv by rw [IntWalk.i64_in _ (by omega), hdv])
                  rw [hdv] at hd
                  obtain ⟨st, hst⟩ : ∃ st, colS 0 (lst 0 l) (wdt 0 l) l (colsS l (wdS l 3) 0) k = st := ⟨_, rfl⟩
                  have HSt := Lib.hid (show colS 0 (lst 0 l) (wdt 0 l) l (colsS l (wdS l 3) 0) (k + 1) = put st dv (W0 : Nat) by
                    show put (colS 0 (lst 0 l) (wdt 0 l) l (colsS l (wdS l 3) 0) k) (clm 0 (l.getD k (0, 0, 0)) - lst 0 l) ((wdt 0 l : Nat) : Int) = _
                    rw [hst, getD_in hkl, HE.out, Ela.out, EW0.out, ← hdv]
                    rfl)
                  have hgd := HGc.out 0 k (by omega) (by omega)
                  rw [hst] at S hgd
                  obtain ⟨r, hr, hw, ht⟩ := S.out
                  obtain ⟨k1, k2, k3, k4⟩ := HK.out _ _ S.out
                  obtain ⟨mh, hmh⟩ : ∃ m, wr.heap.size = m := ⟨_, rfl⟩
                  obtain ⟨w5, hw5⟩ : ∃ w5, wr.alloc (.cells #[.int .i64 x, .int .i64 y, .int .i64 z] 35) = w5 := ⟨_, rfl⟩
                  have hs5 : w5.heap.size = mh + 1 := by rw [← hw5, World.size_alloc, hmh]
                  have hUm : U.heap.size ≤ mh := by rw [← hmh]; exact ht.size
                  have hrr := hw.row_in
                  have HF := Lib.hid (show ∀ b, b < mh + 1 → (b < U.heap.size ∨ b = mh) → some b ≠ r from fun b _ hb e => by
                    rcases hr with rfl | ⟨q, rfl, hq⟩
                    · cases e
                    · injection e with e
                      subst e
                      have := (hrr _ rfl).2
                      rw [hmh] at this
                      omega)
                  have K1 := Lib.hid (show Blk w5 (N + 1) 63 #[.pointer (some ⟨N, 0, none⟩)] by rw [← hw5]; exact k1.alloc _)
                  have K2 := Lib.hid (show Blk w5 (N + 2) 66 #[putV (N + 1)] by rw [← hw5]; exact k2.alloc _)
                  have K3 := Lib.hid (show A3 w5 mL la lb lc by rw [← hw5]; exact Blk.alloc k3 _)
                  have K4 := Lib.hid (show A3 w5 (mL + 1) (W0 : Nat) (W1 : Nat) (W2 : Nat) by rw [← hw5]; exact Blk.alloc k4 _)
                  have K5 := Lib.hid (show A3 w5 mh x y z → True from fun _ => trivial)
                  have KH := Lib.hid (show Blk w5 mh 35 #[.int .i64 x, .int .i64 y, .int .i64 z] by rw [← hw5, ← hmh]; exact Blk.new _ _ _)
                  have KW := Lib.hid (show WrS N w5 N r st from (show WrS N wr N r st from hw).grown (show wr.grownBy w5 none from below_grown (by rw [← hw5]; exact (Below.refl _ _).alloc (Nat.le_refl _) _)) (by simp) (by cases r <;> simp))
                  have KT := Lib.hid (show Two U w5 N none from ht.grown (show wr.grownBy w5 none from below_grown (by rw [← hw5]; exact (Below.refl _ _).alloc (Nat.le_refl _) _)) (Or.inr (Or.inl rfl)))
                  have KR := Lib.hid hr
                  have HmhU := Lib.hid hUm
                  have Hs5 := Lib.hid hs5
                  have HSL := Lib.hid (show mL + 2 ≤ mh ∧ N + 3 ≤ mL by rw [← HUs.out]; exact ⟨hUm, HmL.out⟩)
                  -- the cells in a world that keeps them
                  have HCel := Lib.hid (fun (W' : World) (b2 : Blk W' (N + 2) 66 #[putV (N + 1)]) (b3 : A3 W' mL la lb lc) (b4 : A3 W' (mL + 1) (W0 : Nat) (W1 : Nat) (W2 : Nat)) (bh : Blk W' mh 35 #[.int .i64 x, .int .i64 y, .int .i64 z]) =>
                    (show W'.cell? ⟨N + 2, 0, none⟩ = some (.func (.func 40) #[] #[.pointer (some ⟨N + 1, 0, none⟩)]) ∧ W'.cell? ⟨mh, 0, none⟩ = some (.int .i64 x) ∧ W'.cell? ⟨mh, 1, none⟩ = some (.int .i64 y) ∧ W'.cell? ⟨mh, 2, none⟩ = some (.int .i64 z) ∧ W'.cell? ⟨mL, 0, none⟩ = some (.int .i64 la) ∧ W'.cell? ⟨mL + 1, 0, none⟩ = some (.int .i64 (W0 : Nat)) from
                      ⟨(b2.cell 0).trans rfl, (bh.cell 0).trans rfl, (bh.cell 1).trans rfl, (bh.cell 2).trans rfl, (Blk.cell b3 0).trans rfl, (Blk.cell b4 0).trans rfl⟩))
                  have PR := Lib.hid (fun W : World => rowOf_any x y z W)
                  have PU := Lib.hid (fun (W : World) (hb : Blk W (N + 1) 63 #[.pointer (some ⟨N, 0, none⟩)]) (hB : N ≤ W.heap.size) (hw : WrS N W N r st) => hput_r N N (N + 1) r st dv (W0 : Nat) W hb hB hw hgd.1 hgd.2 hd.1 (by omega) (by omega) (by rw [two_nat]; exact hd.2))
                  have hik : (k : Int) < (n : Int) := by omega
                  clear hx hy hz hbs hd hxb hlb hwb hm1 hdv hgd hr hw ht k1 k2 k3 k4 hrr hs5 hUm hst K5
                  go_upto_region 22 with fail
                  try rw [hw5]
                  try rw [hmh]
                  clear hw5 hmh c0 c1 c2
                  obtain ⟨e1, e2, e3, e4, e5, e6⟩ := HCel.out w5 K2.out K3.out K4.out KH.out
                  have ix0 : ∀ w : World, (Instr.index 61 (.agg #[.int .i64 x, .int .i64 y, .int .i64 z]) (.int .i64 0)).run Try.prog w = .ok (.int .i64 x) w := fun _ => by kernel_rfl
                  have g1 := GW.out
                  have HM6 := Lib.hid (fun (w6 : World) (hb : Below w5.heap.size w5 w6) => (show Blk w6 (N + 1) 63 #[.pointer (some ⟨N, 0, none⟩)] ∧ Blk w6 (N + 2) 66 #[putV (N + 1)] ∧ A3 w6 mL la lb lc ∧ A3 w6 (mL + 1) (W0 : Nat) (W1 : Nat) (W2 : Nat) ∧ Blk w6 mh 35 #[.int .i64 x, .int .i64 y, .int .i64 z] ∧ WrS N w6 N r st ∧ Two U w6 N none ∧ N ≤ w6.heap.size from by
                    have s1 := HSL.out
                    have s2 := Hs5.out
                    have s3 := hb.size
                    exact ⟨K1.out.below hb (by omega), K2.out.below hb (by omega), K3.out.below hb (by omega), K4.out.below hb (by omega), KH.out.below hb (by omega), KW.out.grown (below_grown hb) (by simp) (by cases r <;> simp), KT.out.grown (below_grown hb) (Or.inr (Or.inl rfl)), by omega⟩))
                  have HM7 := Lib.hid (fun (w6 w7 : World) (hB : Below w5.heap.size w5 w6) (h : WroteS N w6 N r (put st dv (W0 : Nat)) w7) => (show (Blk w7 (N + 2) 66 #[putV (N + 1)] ∧ A3 w7 mL la lb lc ∧ A3 w7 (mL + 1) (W0 : Nat) (W1 : Nat) (W2 : Nat) ∧ Blk w7 mh 35 #[.int .i64 x, .int .i64 y, .int .i64 z]) ∧ WroteS N U N none (put st dv (W0 : Nat)) w7 from by
                    obtain ⟨m1, m2, m3, m4, m5, m6, m7, m8⟩ := HM6.out w6 hB
                    have s1 := HSL.out
                    have s0 := HUs.out
                    have h2 := h
                    obtain ⟨_, _, _, ht⟩ := h2
                    exact ⟨⟨ht.blk m2 (by omega) (HF.out _ (by omega) (Or.inl (by omega))), ht.blk m3 (by omega) (HF.out _ (by omega) (Or.inl (by omega))), ht.blk m4 (by omega) (HF.out _ (by omega) (Or.inl (by omega))), ht.blk m5 (by omega) (HF.out _ (by omega) (Or.inr rfl))⟩, Wrote.then KR.out m7 h⟩))
                  go_region_held3 (fun W' => W'.cell? ⟨N + 2, 0, none⟩ = some (.func (.func 40) #[] #[.pointer (some ⟨N + 1, 0, none⟩)]) ∧ W'.cell? ⟨mh, 0, none⟩ = some (.int .i64 x) ∧ W'.cell? ⟨mh, 1, none⟩ = some (.int .i64 y) ∧ W'.cell? ⟨mh, 2, none⟩ = some (.int .i64 z) ∧ W'.cell? ⟨mL, 0, none⟩ = some (.int .i64 la) ∧ W'.cell? ⟨mL + 1, 0, none⟩ = some (.int .i64 (W0 : Nat))) (first | exact ⟨e1, e2, e3, e4, e5, e6⟩ | exact HC6.out | exact HC7.out)
                    ((first
                      | (go_at_call 37; refine (PR.out _).mono ?_; rintro e w6 ⟨rfl, hb⟩; have HB6 := Lib.hid (((Below.refl _ w5).drew).trans hb); have M6 := Lib.hid (HM6.out w6 HB6.out); have HC6 := Lib.hid (HCel.out w6 M6.out.2.1 M6.out.2.2.1 M6.out.2.2.2.1 M6.out.2.2.2.2.1); clear hb)
                      | (go_at_call 40; refine (PU.out _ M6.out.1 M6.out.2.2.2.2.2.2.2 M6.out.2.2.2.2.2.1).mono ?_; rintro e w7 ⟨rfl, hw⟩; have M7 := Lib.hid (HM7.out _ w7 HB6.out hw); have HC7 := Lib.hid (HCel.out w7 M7.out.1.1 M7.out.1.2.1 M7.out.1.2.2.1 M7.out.1.2.2.2); clear hw)))
                  all_goals
                    have S2 := Lib.hid (show WroteS N U N none (colS 0 (lst 0 l) (wdt 0 l) l (colsS l (wdS l 3) 0) (k + 1)) w7 by rw [HSt.out]; exact M7.out.2)
                    clear g1
                    go_wp2_with fail
                    go_roundw
                    case rel => exact ⟨k + 1, by omega, by go_num, S2⟩
                    case measure => simp [intOf]; omega
                · obtain rfl : k = n := by omega
                  have b3 := (HK.out _ _ S.out).1.cell 0
                  simp only [List.getElem?_toArray, List.getElem?_cons_zero] at b3
                  go_wp2_with fail
                  refine (halign_any N N _ U _ S.out).mono ?_
                  rintro e w6 ⟨rfl, hw⟩
                  have S2 := Lib.hid (show WroteS N U N none (colsS l (wdS l 3) (0 + 1)) w6 by rw [show colsS l (wdS l 3) (0 + 1) = aln (colS 0 (lst 0 l) (wdt 0 l) l (colsS l (wdS l 3) 0) l.length) from rfl, HN.out]; exact hw)
                  clear hw b3
                  go_wp2_with fail
                  go_roundw
                  case rel => exact ⟨0 + 1, by omega, by go_num, S2⟩
                  case measure => simp [intOf]
            · obtain rfl : j = 1 := by omega
              go_wp2_with fail
              go_loopw [48] (fun i wq => ∃ k : Nat, k ≤ n ∧ i = .int .i64 (k : Int) ∧ Hid (WroteS N U N none (colS 1 (lst 1 l) (wdt 1 l) l (colsS l (wdS l 3) 1) k) wq)) (fun i _ => n - (intOf i).toNat)
              case atStart => exact ⟨0, by omega, rfl, S⟩
              case round =>
                clear S
                obtain ⟨k, hk, rfl, S⟩ := hrel
                by_cases hlt : k < n
                · have hkl : k < l.length := by rw [HN.out]; exact hlt
                  obtain ⟨b, off, rfl, hbs, c0, c1, c2⟩ := H0.out wr (HUN.out.trans (S.out.below (Nat.le_refl N) (by rw [HUs.out]; have := HmL.out; omega))) k hkl
                  obtain ⟨x, hx⟩ : ∃ x, l[k].1 = x := ⟨_, rfl⟩
                  obtain ⟨y, hy⟩ : ∃ y, l[k].2.1 = y := ⟨_, rfl⟩
                  obtain ⟨z, hz⟩ : ∃ z, l[k].2.2 = z := ⟨_, rfl⟩
                  have HE := Lib.hid (show l[k] = (x, y, z) by rw [← hx, ← hy, ← hz])
                  rw [hx] at c0
                  rw [hy] at c1
                  rw [hz] at c2
                  have hd := diff_in (List.getElem_mem hkl) 1
                  have hxb := (okH_iff _).1 (HOk.out _ (List.getElem_mem hkl)) 1 (by omega)
                  have hlb := lst_in HOk.out HNe.out (c := 1) (by omega)
                  have hwb := wdt_le HOk.out HNe.out (c := 1) (by omega)
                  rw [HE.out, Elb.out, EW1.out, show clm 1 (x, y, z) = y from rfl] at hd
                  rw [HE.out, show clm 1 (x, y, z) = y from rfl] at hxb
                  have hm1 : mostC 1 ≤ 1048576 := by decide
                  rw [Elb.out] at hlb
                  rw [EW1.out] at hwb
                  obtain ⟨dv, hdv⟩ : ∃ v, y - lb = v := ⟨_, rfl⟩
                  have GW := Lib.hid (show IntKind.i64.wrap (y - lb) = dv by rw [IntWalk.i64_in _ (by omega), hdv])
                  rw [hdv] at hd
                  obtain ⟨st, hst⟩ : ∃ st, colS 1 (lst 1 l) (wdt 1 l) l (colsS l (wdS l 3) 1) k = st := ⟨_, rfl⟩
                  have HSt := Lib.hid (show colS 1 (lst 1 l) (wdt 1 l) l (colsS l (wdS l 3) 1) (k + 1) = put st dv (W1 : Nat) by
                    show put (colS 1 (lst 1 l) (wdt 1 l) l (colsS l (wdS l 3) 1) k) (clm 1 (l.getD k (0, 0, 0)) - lst 1 l) ((wdt 1 l : Nat) : Int) = _
                    rw [hst, getD_in hkl, HE.out, Elb.out, EW1.out, ← hdv]
                    rfl)
                  have hgd := HGc.out 1 k (by omega) (by omega)
                  rw [hst] at S hgd
                  obtain ⟨r, hr, hw, ht⟩ := S.out
                  obtain ⟨k1, k2, k3, k4⟩ := HK.out _ _ S.out
                  obtain ⟨mh, hmh⟩ : ∃ m, wr.heap.size = m := ⟨_, rfl⟩
                  obtain ⟨w5, hw5⟩ : ∃ w5, wr.alloc (.cells #[.int .i64 x, .int .i64 y, .int .i64 z] 35) = w5 := ⟨_, rfl⟩
                  have hs5 : w5.heap.size = mh + 1 := by rw [← hw5, World.size_alloc, hmh]
                  have hUm : U.heap.size ≤ mh := by rw [← hmh]; exact ht.size
                  have hrr := hw.row_in
                  have HF := Lib.hid (show ∀ b, b < mh + 1 → (b < U.heap.size ∨ b = mh) → some b ≠ r from fun b _ hb e => by
                    rcases hr with rfl | ⟨q, rfl, hq⟩
                    · cases e
                    · injection e with e
                      subst e
                      have := (hrr _ rfl).2
                      rw [hmh] at this
                      omega)
                  have K1 := Lib.hid (show Blk w5 (N + 1) 63 #[.pointer (some ⟨N, 0, none⟩)] by rw [← hw5]; exact k1.alloc _)
                  have K2 := Lib.hid (show Blk w5 (N + 2) 66 #[putV (N + 1)] by rw [← hw5]; exact k2.alloc _)
                  have K3 := Lib.hid (show A3 w5 mL la lb lc by rw [← hw5]; exact Blk.alloc k3 _)
                  have K4 := Lib.hid (show A3 w5 (mL + 1) (W0 : Nat) (W1 : Nat) (W2 : Nat) by rw [← hw5]; exact Blk.alloc k4 _)
                  have K5 := Lib.hid (show A3 w5 mh x y z → True from fun _ => trivial)
                  have KH := Lib.hid (show Blk w5 mh 35 #[.int .i64 x, .int .i64 y, .int .i64 z] by rw [← hw5, ← hmh]; exact Blk.new _ _ _)
                  have KW := Lib.hid (show WrS N w5 N r st from (show WrS N wr N r st from hw).grown (show wr.grownBy w5 none from below_grown (by rw [← hw5]; exact (Below.refl _ _).alloc (Nat.le_refl _) _)) (by simp) (by cases r <;> simp))
                  have KT := Lib.hid (show Two U w5 N none from ht.grown (show wr.grownBy w5 none from below_grown (by rw [← hw5]; exact (Below.refl _ _).alloc (Nat.le_refl _) _)) (Or.inr (Or.inl rfl)))
                  have KR := Lib.hid hr
                  have HmhU := Lib.hid hUm
                  have Hs5 := Lib.hid hs5
                  have HSL := Lib.hid (show mL + 2 ≤ mh ∧ N + 3 ≤ mL by rw [← HUs.out]; exact ⟨hUm, HmL.out⟩)
                  -- the cells in a world that keeps them
                  have HCel := Lib.hid (fun (W' : World) (b2 : Blk W' (N + 2) 66 #[putV (N + 1)]) (b3 : A3 W' mL la lb lc) (b4 : A3 W' (mL + 1) (W0 : Nat) (W1 : Nat) (W2 : Nat)) (bh : Blk W' mh 35 #[.int .i64 x, .int .i64 y, .int .i64 z]) =>
                    (show W'.cell? ⟨N + 2, 0, none⟩ = some (.func (.func 40) #[] #[.pointer (some ⟨N + 1, 0, none⟩)]) ∧ W'.cell? ⟨mh, 0, none⟩ = some (.int .i64 x) ∧ W'.cell? ⟨mh, 1, none⟩ = some (.int .i64 y) ∧ W'.cell? ⟨mh, 2, none⟩ = some (.int .i64 z) ∧ W'.cell? ⟨mL, 1, none⟩ = some (.int .i64 lb) ∧ W'.cell? ⟨mL + 1, 1, none⟩ = some (.int .i64 (W1 : Nat)) from
                      ⟨(b2.cell 0).trans rfl, (bh.cell 0).trans rfl, (bh.cell 1).trans rfl, (bh.cell 2).trans rfl, (Blk.cell b3 1).trans rfl, (Blk.cell b4 1).trans rfl⟩))
                  have PR := Lib.hid (fun W : World => rowOf_any x y z W)
                  have PU := Lib.hid (fun (W : World) (hb : Blk W (N + 1) 63 #[.pointer (some ⟨N, 0, none⟩)]) (hB : N ≤ W.heap.size) (hw : WrS N W N r st) => hput_r N N (N + 1) r st dv (W1 : Nat) W hb hB hw hgd.1 hgd.2 hd.1 (by omega) (by omega) (by rw [two_nat]; exact hd.2))
                  have hik : (k : Int) < (n : Int) := by omega
                  clear hx hy hz hbs hd hxb hlb hwb hm1 hdv hgd hr hw ht k1 k2 k3 k4 hrr hs5 hUm hst K5
                  go_upto_region 22 with fail
                  try rw [hw5]
                  try rw [hmh]
                  clear hw5 hmh c0 c1 c2
                  obtain ⟨e1, e2, e3, e4, e5, e6⟩ := HCel.out w5 K2.out K3.out K4.out KH.out
                  have ix0 : ∀ w : World, (Instr.index 61 (.agg #[.int .i64 x, .int .i64 y, .int .i64 z]) (.int .i64 1)).run Try.prog w = .ok (.int .i64 y) w := fun _ => by kernel_rfl
                  have g1 := GW.out
                  have HM6 := Lib.hid (fun (w6 : World) (hb : Below w5.heap.size w5 w6) => (show Blk w6 (N + 1) 63 #[.pointer (some ⟨N, 0, none⟩)] ∧ Blk w6 (N + 2) 66 #[putV (N + 1)] ∧ A3 w6 mL la lb lc ∧ A3 w6 (mL + 1) (W0 : Nat) (W1 : Nat) (W2 : Nat) ∧ Blk w6 mh 35 #[.int .i64 x, .int .i64 y, .int .i64 z] ∧ WrS N w6 N r st ∧ Two U w6 N none ∧ N ≤ w6.heap.size from by
                    have s1 := HSL.out
                    have s2 := Hs5.out
                    have s3 := hb.size
                    exact ⟨K1.out.below hb (by omega), K2.out.below hb (by omega), K3.out.below hb (by omega), K4.out.below hb (by omega), KH.out.below hb (by omega), KW.out.grown (below_grown hb) (by simp) (by cases r <;> simp), KT.out.grown (below_grown hb) (Or.inr (Or.inl rfl)), by omega⟩))
                  have HM7 := Lib.hid (fun (w6 w7 : World) (hB : Below w5.heap.size w5 w6) (h : WroteS N w6 N r (put st dv (W1 : Nat)) w7) => (show (Blk w7 (N + 2) 66 #[putV (N + 1)] ∧ A3 w7 mL la lb lc ∧ A3 w7 (mL + 1) (W0 : Nat) (W1 : Nat) (W2 : Nat) ∧ Blk w7 mh 35 #[.int .i64 x, .int .i64 y, .int .i64 z]) ∧ WroteS N U N none (put st dv (W1 : Nat)) w7 from by
                    obtain ⟨m1, m2, m3, m4, m5, m6, m7, m8⟩ := HM6.out w6 hB
                    have s1 := HSL.out
                    have s0 := HUs.out
                    have h2 := h
                    obtain ⟨_, _, _, ht⟩ := h2
                    exact ⟨⟨ht.blk m2 (by omega) (HF.out _ (by omega) (Or.inl (by omega))), ht.blk m3 (by omega) (HF.out _ (by omega) (Or.inl (by omega))), ht.blk m4 (by omega) (HF.out _ (by omega) (Or.inl (by omega))), ht.blk m5 (by omega) (HF.out _ (by omega) (Or.inr rfl))⟩, Wrote.then KR.out m7 h⟩))
                  go_region_held3 (fun W' => W'.cell? ⟨N + 2, 0, none⟩ = some (.func (.func 40) #[] #[.pointer (some ⟨N + 1, 0, none⟩)]) ∧ W'.cell? ⟨mh, 0, none⟩ = some (.int .i64 x) ∧ W'.cell? ⟨mh, 1, none⟩ = some (.int .i64 y) ∧ W'.cell? ⟨mh, 2, none⟩ = some (.int .i64 z) ∧ W'.cell? ⟨mL, 1, none⟩ = some (.int .i64 lb) ∧ W'.cell? ⟨mL + 1, 1, none⟩ = some (.int .i64 (W1 : Nat))) (first | exact ⟨e1, e2, e3, e4, e5, e6⟩ | exact HC6.out | exact HC7.out)
                    ((first
                      | (go_at_call 37; refine (PR.out _).mono ?_; rintro e w6 ⟨rfl, hb⟩; have HB6 := Lib.hid (((Below.refl _ w5).drew).trans hb); have M6 := Lib.hid (HM6.out w6 HB6.out); have HC6 := Lib.hid (HCel.out w6 M6.out.2.1 M6.out.2.2.1 M6.out.2.2.2.1 M6.out.2.2.2.2.1); clear hb)
                      | (go_at_call 40; refine (PU.out _ M6.out.1 M6.out.2.2.2.2.2.2.2 M6.out.2.2.2.2.2.1).mono ?_; rintro e w7 ⟨rfl, hw⟩; have M7 := Lib.hid (HM7.out _ w7 HB6.out hw); have HC7 := Lib.hid (HCel.out w7 M7.out.1.1 M7.out.1.2.1 M7.out.1.2.2.1 M7.out.1.2.2.2); clear hw)))
                  all_goals
                    have S2 := Lib.hid (show WroteS N U N none (colS 1 (lst 1 l) (wdt 1 l) l (colsS l (wdS l 3) 1) (k + 1)) w7 by rw [HSt.out]; exact M7.out.2)
                    clear g1
                    go_wp2_with fail
                    go_roundw
                    case rel => exact ⟨k + 1, by omega, by go_num, S2⟩
                    case measure => simp [intOf]; omega
                · obtain rfl : k = n := by omega
                  have b3 := (HK.out _ _ S.out).1.cell 0
                  simp only [List.getElem?_toArray, List.getElem?_cons_zero] at b3
                  go_wp2_with fail
                  refine (halign_any N N _ U _ S.out).mono ?_
                  rintro e w6 ⟨rfl, hw⟩
                  have S2 := Lib.hid (show WroteS N U N none (colsS l (wdS l 3) (1 + 1)) w6 by rw [show colsS l (wdS l 3) (1 + 1) = aln (colS 1 (lst 1 l) (wdt 1 l) l (colsS l (wdS l 3) 1) l.length) from rfl, HN.out]; exact hw)
                  clear hw b3
                  go_wp2_with fail
                  go_roundw
                  case rel => exact ⟨1 + 1, by omega, by go_num, S2⟩
                  case measure => simp [intOf]
            · obtain rfl : j = 2 := by omega
              go_wp2_with fail
              go_loopw [48] (fun i wq => ∃ k : Nat, k ≤ n ∧ i = .int .i64 (k : Int) ∧ Hid (WroteS N U N none (colS 2 (lst 2 l) (wdt 2 l) l (colsS l (wdS l 3) 2) k) wq)) (fun i _ => n - (intOf i).toNat)
              case atStart => exact ⟨0, by omega, rfl, S⟩
              case round =>
                clear S
                obtain ⟨k, hk, rfl, S⟩ := hrel
                by_cases hlt : k < n
                · have hkl : k < l.length := by rw [HN.out]; exact hlt
                  obtain ⟨b, off, rfl, hbs, c0, c1, c2⟩ := H0.out wr (HUN.out.trans (S.out.below (Nat.le_refl N) (by rw [HUs.out]; have := HmL.out; omega))) k hkl
                  obtain ⟨x, hx⟩ : ∃ x, l[k].1 = x := ⟨_, rfl⟩
                  obtain ⟨y, hy⟩ : ∃ y, l[k].2.1 = y := ⟨_, rfl⟩
                  obtain ⟨z, hz⟩ : ∃ z, l[k].2.2 = z := ⟨_, rfl⟩
                  have HE := Lib.hid (show l[k] = (x, y, z) by rw [← hx, ← hy, ← hz])
                  rw [hx] at c0
                  rw [hy] at c1
                  rw [hz] at c2
                  have hd := diff_in (List.getElem_mem hkl) 2
                  have hxb := (okH_iff _).1 (HOk.out _ (List.getElem_mem hkl)) 2 (by omega)
                  have hlb := lst_in HOk.out HNe.out (c := 2) (by omega)
                  have hwb := wdt_le HOk.out HNe.out (c := 2) (by omega)
                  rw [HE.out, Elc.out, EW2.out, show clm 2 (x, y, z) = z from rfl] at hd
                  rw [HE.out, show clm 2 (x, y, z) = z from rfl] at hxb
                  have hm1 : mostC 2 ≤ 1048576 := by decide
                  rw [Elc.out] at hlb
                  rw [EW2.out] at hwb
                  obtain ⟨dv, hdv⟩ : ∃ v, z - lc = v := ⟨_, rfl⟩
                  have GW := Lib.hid (show IntKind.i64.wrap (z - lc) = dv by rw [IntWalk.i64_in _ (by omega), hdv])
                  rw [hdv] at hd
                  obtain ⟨st, hst⟩ : ∃ st, colS 2 (lst 2 l) (wdt 2 l) l (colsS l (wdS l 3) 2) k = st := ⟨_, rfl⟩
                  have HSt := Lib.hid (show colS 2 (lst 2 l) (wdt 2 l) l (colsS l (wdS l 3) 2) (k + 1) = put st dv (W2 : Nat) by
                    show put (colS 2 (lst 2 l) (wdt 2 l) l (colsS l (wdS l 3) 2) k) (clm 2 (l.getD k (0, 0, 0)) - lst 2 l) ((wdt 2 l : Nat) : Int) = _
                    rw [hst, getD_in hkl, HE.out, Elc.out, EW2.out, ← hdv]
                    rfl)
                  have hgd := HGc.out 2 k (by omega) (by omega)
                  rw [hst] at S hgd
                  obtain ⟨r, hr, hw, ht⟩ := S.out
                  obtain ⟨k1, k2, k3, k4⟩ := HK.out _ _ S.out
                  obtain ⟨mh, hmh⟩ : ∃ m, wr.heap.size = m := ⟨_, rfl⟩
                  obtain ⟨w5, hw5⟩ : ∃ w5, wr.alloc (.cells #[.int .i64 x, .int .i64 y, .int .i64 z] 35) = w5 := ⟨_, rfl⟩
                  have hs5 : w5.heap.size = mh + 1 := by rw [← hw5, World.size_alloc, hmh]
                  have hUm : U.heap.size ≤ mh := by rw [← hmh]; exact ht.size
                  have hrr := hw.row_in
                  have HF := Lib.hid (show ∀ b, b < mh + 1 → (b < U.heap.size ∨ b = mh) → some b ≠ r from fun b _ hb e => by
                    rcases hr with rfl | ⟨q, rfl, hq⟩
                    · cases e
                    · injection e with e
                      subst e
                      have := (hrr _ rfl).2
                      rw [hmh] at this
                      omega)
                  have K1 := Lib.hid (show Blk w5 (N + 1) 63 #[.pointer (some ⟨N, 0, none⟩)] by rw [← hw5]; exact k1.alloc _)
                  have K2 := Lib.hid (show Blk w5 (N + 2) 66 #[putV (N + 1)] by rw [← hw5]; exact k2.alloc _)
                  have K3 := Lib.hid (show A3 w5 mL la lb lc by rw [← hw5]; exact Blk.alloc k3 _)
                  have K4 := Lib.hid (show A3 w5 (mL + 1) (W0 : Nat) (W1 : Nat) (W2 : Nat) by rw [← hw5]; exact Blk.alloc k4 _)
                  have K5 := Lib.hid (show A3 w5 mh x y z → True from fun _ => trivial)
                  have KH := Lib.hid (show Blk w5 mh 35 #[.int .i64 x, .int .i64 y, .int .i64 z] by rw [← hw5, ← hmh]; exact Blk.new _ _ _)
                  have KW := Lib.hid (show WrS N w5 N r st from (show WrS N wr N r st from hw).grown (show wr.grownBy w5 none from below_grown (by rw [← hw5]; exact (Below.refl _ _).alloc (Nat.le_refl _) _)) (by simp) (by cases r <;> simp))
                  have KT := Lib.hid (show Two U w5 N none from ht.grown (show wr.grownBy w5 none from below_grown (by rw [← hw5]; exact (Below.refl _ _).alloc (Nat.le_refl _) _)) (Or.inr (Or.inl rfl)))
                  have KR := Lib.hid hr
                  have HmhU := Lib.hid hUm
                  have Hs5 := Lib.hid hs5
                  have HSL := Lib.hid (show mL + 2 ≤ mh ∧ N + 3 ≤ mL by rw [← HUs.out]; exact ⟨hUm, HmL.out⟩)
                  -- the cells in a world that keeps them
                  have HCel := Lib.hid (fun (W' : World) (b2 : Blk W' (N + 2) 66 #[putV (N + 1)]) (b3 : A3 W' mL la lb lc) (b4 : A3 W' (mL + 1) (W0 : Nat) (W1 : Nat) (W2 : Nat)) (bh : Blk W' mh 35 #[.int .i64 x, .int .i64 y, .int .i64 z]) =>
                    (show W'.cell? ⟨N + 2, 0, none⟩ = some (.func (.func 40) #[] #[.pointer (some ⟨N + 1, 0, none⟩)]) ∧ W'.cell? ⟨mh, 0, none⟩ = some (.int .i64 x) ∧ W'.cell? ⟨mh, 1, none⟩ = some (.int .i64 y) ∧ W'.cell? ⟨mh, 2, none⟩ = some (.int .i64 z) ∧ W'.cell? ⟨mL, 2, none⟩ = some (.int .i64 lc) ∧ W'.cell? ⟨mL + 1, 2, none⟩ = some (.int .i64 (W2 : Nat)) from
                      ⟨(b2.cell 0).trans rfl, (bh.cell 0).trans rfl, (bh.cell 1).trans rfl, (bh.cell 2).trans rfl, (Blk.cell b3 2).trans rfl, (Blk.cell b4 2).trans rfl⟩))
                  have PR := Lib.hid (fun W : World => rowOf_any x y z W)
                  have PU := Lib.hid (fun (W : World) (hb : Blk W (N + 1) 63 #[.pointer (some ⟨N, 0, none⟩)]) (hB : N ≤ W.heap.size) (hw : WrS N W N r st) => hput_r N N (N + 1) r st dv (W2 : Nat) W hb hB hw hgd.1 hgd.2 hd.1 (by omega) (by omega) (by rw [two_nat]; exact hd.2))
                  have hik : (k : Int) < (n : Int) := by omega
                  clear hx hy hz hbs hd hxb hlb hwb hm1 hdv hgd hr hw ht k1 k2 k3 k4 hrr hs5 hUm hst K5
                  go_upto_region 22 with fail
                  try rw [hw5]
                  try rw [hmh]
                  clear hw5 hmh c0 c1 c2
                  obtain ⟨e1, e2, e3, e4, e5, e6⟩ := HCel.out w5 K2.out K3.out K4.out KH.out
                  have ix0 : ∀ w : World, (Instr.index 61 (.agg #[.int .i64 x, .int .i64 y, .int .i64 z]) (.int .i64 2)).run Try.prog w = .ok (.int .i64 z) w := fun _ => by kernel_rfl
                  have g1 := GW.out
                  have HM6 := Lib.hid (fun (w6 : World) (hb : Below w5.heap.size w5 w6) => (show Blk w6 (N + 1) 63 #[.pointer (some ⟨N, 0, none⟩)] ∧ Blk w6 (N + 2) 66 #[putV (N + 1)] ∧ A3 w6 mL la lb lc ∧ A3 w6 (mL + 1) (W0 : Nat) (W1 : Nat) (W2 : Nat) ∧ Blk w6 mh 35 #[.int .i64 x, .int .i64 y, .int .i64 z] ∧ WrS N w6 N r st ∧ Two U w6 N none ∧ N ≤ w6.heap.size from by
                    have s1 := HSL.out
                    have s2 := Hs5.out
                    have s3 := hb.size
                    exact ⟨K1.out.below hb (by omega), K2.out.below hb (by omega), K3.out.below hb (by omega), K4.out.below hb (by omega), KH.out.below hb (by omega), KW.out.grown (below_grown hb) (by simp) (by cases r <;> simp), KT.out.grown (below_grown hb) (Or.inr (Or.inl rfl)), by omega⟩))
                  have HM7 := Lib.hid (fun (w6 w7 : World) (hB : Below w5.heap.size w5 w6) (h : WroteS N w6 N r (put st dv (W2 : Nat)) w7) => (show (Blk w7 (N + 2) 66 #[putV (N + 1)] ∧ A3 w7 mL la lb lc ∧ A3 w7 (mL + 1) (W0 : Nat) (W1 : Nat) (W2 : Nat) ∧ Blk w7 mh 35 #[.int .i64 x, .int .i64 y, .int .i64 z]) ∧ WroteS N U N none (put st dv (W2 : Nat)) w7 from by
                    obtain ⟨m1, m2, m3, m4, m5, m6, m7, m8⟩ := HM6.out w6 hB
                    have s1 := HSL.out
                    have s0 := HUs.out
                    have h2 := h
                    obtain ⟨_, _, _, ht⟩ := h2
                    exact ⟨⟨ht.blk m2 (by omega) (HF.out _ (by omega) (Or.inl (by omega))), ht.blk m3 (by omega) (HF.out _ (by omega) (Or.inl (by omega))), ht.blk m4 (by omega) (HF.out _ (by omega) (Or.inl (by omega))), ht.blk m5 (by omega) (HF.out _ (by omega) (Or.inr rfl))⟩, Wrote.then KR.out m7 h⟩))
                  go_region_held3 (fun W' => W'.cell? ⟨N + 2, 0, none⟩ = some (.func (.func 40) #[] #[.pointer (some ⟨N + 1, 0, none⟩)]) ∧ W'.cell? ⟨mh, 0, none⟩ = some (.int .i64 x) ∧ W'.cell? ⟨mh, 1, none⟩ = some (.int .i64 y) ∧ W'.cell? ⟨mh, 2, none⟩ = some (.int .i64 z) ∧ W'.cell? ⟨mL, 2, none⟩ = some (.int .i64 lc) ∧ W'.cell? ⟨mL + 1, 2, none⟩ = some (.int .i64 (W2 : Nat))) (first | exact ⟨e1, e2, e3, e4, e5, e6⟩ | exact HC6.out | exact HC7.out)
                    ((first
                      | (go_at_call 37; refine (PR.out _).mono ?_; rintro e w6 ⟨rfl, hb⟩; have HB6 := Lib.hid (((Below.refl _ w5).drew).trans hb); have M6 := Lib.hid (HM6.out w6 HB6.out); have HC6 := Lib.hid (HCel.out w6 M6.out.2.1 M6.out.2.2.1 M6.out.2.2.2.1 M6.out.2.2.2.2.1); clear hb)
                      | (go_at_call 40; refine (PU.out _ M6.out.1 M6.out.2.2.2.2.2.2.2 M6.out.2.2.2.2.2.1).mono ?_; rintro e w7 ⟨rfl, hw⟩; have M7 := Lib.hid (HM7.out _ w7 HB6.out hw); have HC7 := Lib.hid (HCel.out w7 M7.out.1.1 M7.out.1.2.1 M7.out.1.2.2.1 M7.out.1.2.2.2); clear hw)))
                  all_goals
                    have S2 := Lib.hid (show WroteS N U N none (colS 2 (lst 2 l) (wdt 2 l) l (colsS l (wdS l 3) 2) (k + 1)) w7 by rw [HSt.out]; exact M7.out.2)
                    clear g1
                    go_wp2_with fail
                    go_roundw
                    case rel => exact ⟨k + 1, by omega, by go_num, S2⟩
                    case measure => simp [intOf]; omega
                · obtain rfl : k = n := by omega
                  have b3 := (HK.out _ _ S.out).1.cell 0
                  simp only [List.getElem?_toArray, List.getElem?_cons_zero] at b3
                  go_wp2_with fail
                  refine (halign_any N N _ U _ S.out).mono ?_
                  rintro e w6 ⟨rfl, hw⟩
                  have S2 := Lib.hid (show WroteS N U N none (colsS l (wdS l 3) (2 + 1)) w6 by rw [show colsS l (wdS l 3) (2 + 1) = aln (colS 2 (lst 2 l) (wdt 2 l) l (colsS l (wdS l 3) 2) l.length) from rfl, HN.out]; exact hw)
                  clear hw b3
                  go_wp2_with fail
                  go_roundw
                  case rel => exact ⟨2 + 1, by omega, by go_num, S2⟩
                  case measure => simp [intOf]
            · obtain rfl : j = 3 := by omega
              have b3 := (HK.out _ _ S.out).1.cell 0
              simp only [List.getElem?_toArray, List.getElem?_cons_zero] at b3
              go_wp2_with fail
              refine (htext_any N N _ U _ S.out).mono ?_
              rintro e w6 ⟨rfl, rfl⟩
              have HBf := Lib.hid (HUN.out.trans (S.out.below (Nat.le_refl N) (by rw [HUs.out]; have := HmL.out; omega)))
              have HRf : (⟨(colsS l (wdS l 3) 3).1.toArray⟩ : ByteArray) = R := HRs.out
              rw [HRf]
              clear HRf b3
              go_wp2_with fail
              go_ret
              exact ⟨rfl, HBf.out⟩
end Go.Proofs.Ytkcnhdponcbjaaa
