/-
  The reference's Read at more than four decimals.
-/
import Derived.Test.YtmimeconkmfkfaaDoorFixRf
import Derived.Deep.DeepCutAuto
namespace Go.Proofs.YtmimeconkmfkfaaDoor
open Go.RowKit Fix

set_option maxHeartbeats 3200000 in
theorem readR_lowp (s A B H R : ByteArray) (v : Int) (w : World) (P : Hid (Parts s A B H R false v)) (h0 : R = B.extract 4 B.size) (hR : 4 < B.size) (h5 : fiveUp R.data.toList = false) :
    Calls Tryd.prog 10 #[.string s] w (ReadEnd s.data.toList w) := by
  have a40 := P.out.a40
  have b40 := P.out.b40
  have h60 := P.out.h60
  have hR' : (4 : Int) < (B.size : Int) := by omega
  have hRs : R.size = B.size - 4 := by rw [h0]; simp
  have hR0 : 0 < R.size := by omega
  have h5' := h5
  rw [five_at R hR0] at h5'
  have e1 : R.toList.isEmpty = false := by rw [Lib.toList_data, List.isEmpty_eq_false_iff]; intro e; have := congrArg List.length e; rw [size_list, List.length_nil] at this; omega
  have HR0 := Lib.hid h0
  have e3 : ((R[0].toNat : Int)) < 53 := by
    have h6 : ¬ 53 ≤ R[0].toNat := by simpa using h5'
    omega
  have HU : Hid (moreR R.data.toList false = false) := Lib.hid (by unfold moreR; rw [h5]; rfl)
  clear h5 h5' h0 hRs
  go_enter Tryd.func10, Tryd.ntmps10
  go_wp2_with fail
  refine (P.out.form _).mono ?_
  rintro e w' ⟨rfl, rfl⟩
  go_wp2_with fail
  rw [← P.out.sum]
  go_loop [8, 10] (fun a i => ∃ (k : Nat) (n : Int), k ≤ H.size ∧ a = .int .i64 n ∧ i = .int .i64 k ∧ 0 ≤ n ∧ n ≤ 1099511627776 ∧ Hid (n = valM 0 (H.data.toList.take k))) (fun _ i => H.size - (intOf i).toNat)
  case atStart => exact ⟨0, 0, by omega, rfl, rfl, by omega, by omega, Lib.hid rfl⟩
  case round =>
    obtain ⟨k, n, hk, rfl, rfl, n0, n1, hn⟩ := hrel
    by_cases hlt : k < H.size
    · have hm : isDig H[k] = true := (List.all_eq_true.1 (by rw [P.out.head]; exact head_dig P.out.good : H.data.toList.all isDig = true)) H[k] (by rw [Array.mem_toList_iff]; exact Array.getElem_mem hlt)
      obtain ⟨d1, d2⟩ := isDig_yes hm
      have HNX := Lib.hid (valM_next H k hlt n hn.out)
      have hw2 : IntKind.u8.wrap ((H[k].toNat : Int) - 48) = (H[k].toNat : Int) - 48 := by
        rw [show (H[k].toNat : Int) - 48 = ((H[k].toNat - 48 : Nat) : Int) by omega]
        exact IntWalk.u8_in _ (by omega)
      have hw3 : IntKind.i64.wrap ((H[k].toNat : Int) - 48) = (H[k].toNat : Int) - 48 := IntWalk.i64_in _ (by omega)
      clear hm
      go_wp2
      go_round
      case rel => exact ⟨k + 1, _, by omega, rfl, by go_num, by omega, by omega, Lib.hid HNX.out⟩
      case measure => simp [intOf]; omega
    · have hnv : n = v := by rw [hn.out, List.take_of_length_le (by rw [size_list]; omega), P.out.head]; exact P.out.val
      subst hnv
      clear hn
      go_upto_region 13 with fail
      rw [← HR0.out]
      have HX := Lib.hid (refX_of (x := n) P.out.minus ((up_of P.out).trans HU.out) P.out.val rfl)
      by_cases hr : inRange n = true
      · have HR := Lib.hid hr
        clear hr
        go_wp2_with fail
        refine (withinR_yes _ _ HR.out).mono ?_
        rintro e w' ⟨rfl, rfl⟩
        go_wp2_with fail
        go_ret2
        exact readEnd_yes P.out.good HX.out HR.out
      · have HR := Lib.hid hr
        clear hr
        go_wp2_with fail
        refine (withinR_no _ _ HR.out).mono ?_
        rintro e w' ⟨rfl, rfl⟩
        go_wp2_with fail
        go_ret2
        exact readEnd_no P.out.good HX.out HR.out

set_option maxHeartbeats 3200000 in
theorem readR_lowm (s A B H R : ByteArray) (v : Int) (w : World) (P : Hid (Parts s A B H R true v)) (h0 : R = B.extract 4 B.size) (hR : 4 < B.size) (h5 : fiveUp R.data.toList = false) :
    Calls Tryd.prog 10 #[.string s] w (ReadEnd s.data.toList w) := by
  have a40 := P.out.a40
  have b40 := P.out.b40
  have h60 := P.out.h60
  have hR' : (4 : Int) < (B.size : Int) := by omega
  have hRs : R.size = B.size - 4 := by rw [h0]; simp
  have hR0 : 0 < R.size := by omega
  have h5' := h5
  rw [five_at R hR0] at h5'
  have e1 : R.toList.isEmpty = false := by rw [Lib.toList_data, List.isEmpty_eq_false_iff]; intro e; have := congrArg List.length e; rw [size_list, List.length_nil] at this; omega
  have HR0 := Lib.hid h0
  have e3 : ((R[0].toNat : Int)) < 53 := by
    have h6 : ¬ 53 ≤ R[0].toNat := by simpa using h5'
    omega
  have HU : Hid (moreR R.data.toList true = false) := Lib.hid (by unfold moreR; rw [h5]; rfl)
  clear h5 h5' h0 hRs
  go_enter Tryd.func10, Tryd.ntmps10
  go_wp2_with fail
  refine (P.out.form _).mono ?_
  rintro e w' ⟨rfl, rfl⟩
  go_wp2_with fail
  rw [← P.out.sum]
  go_loop [8, 10] (fun a i => ∃ (k : Nat) (n : Int), k ≤ H.size ∧ a = .int .i64 n ∧ i = .int .i64 k ∧ 0 ≤ n ∧ n ≤ 1099511627776 ∧ Hid (n = valM 0 (H.data.toList.take k))) (fun _ i => H.size - (intOf i).toNat)
  case atStart => exact ⟨0, 0, by omega, rfl, rfl, by omega, by omega, Lib.hid rfl⟩
  case round =>
    obtain ⟨k, n, hk, rfl, rfl, n0, n1, hn⟩ := hrel
    by_cases hlt : k < H.size
    · have hm : isDig H[k] = true := (List.all_eq_true.1 (by rw [P.out.head]; exact head_dig P.out.good : H.data.toList.all isDig = true)) H[k] (by rw [Array.mem_toList_iff]; exact Array.getElem_mem hlt)
      obtain ⟨d1, d2⟩ := isDig_yes hm
      have HNX := Lib.hid (valM_next H k hlt n hn.out)
      have hw2 : IntKind.u8.wrap ((H[k].toNat : Int) - 48) = (H[k].toNat : Int) - 48 := by
        rw [show (H[k].toNat : Int) - 48 = ((H[k].toNat - 48 : Nat) : Int) by omega]
        exact IntWalk.u8_in _ (by omega)
      have hw3 : IntKind.i64.wrap ((H[k].toNat : Int) - 48) = (H[k].toNat : Int) - 48 := IntWalk.i64_in _ (by omega)
      clear hm
      go_wp2
      go_round
      case rel => exact ⟨k + 1, _, by omega, rfl, by go_num, by omega, by omega, Lib.hid HNX.out⟩
      case measure => simp [intOf]; omega
    · have hnv : n = v := by rw [hn.out, List.take_of_length_le (by rw [size_list]; omega), P.out.head]; exact P.out.val
      subst hnv
      clear hn
      go_upto_region 13 with fail
      rw [← HR0.out]
      have HX := Lib.hid (refX_of (x := (-n)) P.out.minus ((up_of P.out).trans HU.out) P.out.val rfl)
      by_cases hr : inRange (-n) = true
      · have HR := Lib.hid hr
        clear hr
        go_wp2_with fail
        refine (withinR_yes _ _ HR.out).mono ?_
        rintro e w' ⟨rfl, rfl⟩
        go_wp2_with fail
        go_ret2
        exact readEnd_yes P.out.good HX.out HR.out
      · have HR := Lib.hid hr
        clear hr
        go_wp2_with fail
        refine (withinR_no _ _ HR.out).mono ?_
        rintro e w' ⟨rfl, rfl⟩
        go_wp2_with fail
        go_ret2
        exact readEnd_no P.out.good HX.out HR.out

set_option maxHeartbeats 3200000 in
theorem readR_highp (s A B H R : ByteArray) (v : Int) (w : World) (P : Hid (Parts s A B H R false v)) (h0 : R = B.extract 4 B.size) (hR : 4 < B.size) (h5 : fiveUp R.data.toList = true) :
    Calls Tryd.prog 10 #[.string s] w (ReadEnd s.data.toList w) := by
  have a40 := P.out.a40
  have b40 := P.out.b40
  have h60 := P.out.h60
  have hR' : (4 : Int) < (B.size : Int) := by omega
  have hRs : R.size = B.size - 4 := by rw [h0]; simp
  have hR0 : 0 < R.size := by omega
  have h5' := h5
  rw [five_at R hR0] at h5'
  have e1 : R.toList.isEmpty = false := by rw [Lib.toList_data, List.isEmpty_eq_false_iff]; intro e; have := congrArg List.length e; rw [size_list, List.length_nil] at this; omega
  have HR0 := Lib.hid h0
  have e3 : (53 : Int) ≤ (R[0].toNat : Int) := by
    have h6 : 53 ≤ R[0].toNat := by simpa using h5'
    omega
  have HU : Hid (moreR R.data.toList false = true) := Lib.hid (by unfold moreR; rw [h5]; rfl)
  clear h5 h5' h0 hRs
  go_enter Tryd.func10, Tryd.ntmps10
  go_wp2_with fail
  refine (P.out.form _).mono ?_
  rintro e w' ⟨rfl, rfl⟩
  go_wp2_with fail
  rw [← P.out.sum]
  go_loop [8, 10] (fun a i => ∃ (k : Nat) (n : Int), k ≤ H.size ∧ a = .int .i64 n ∧ i = .int .i64 k ∧ 0 ≤ n ∧ n ≤ 1099511627776 ∧ Hid (n = valM 0 (H.data.toList.take k))) (fun _ i => H.size - (intOf i).toNat)
  case atStart => exact ⟨0, 0, by omega, rfl, rfl, by omega, by omega, Lib.hid rfl⟩
  case round =>
    obtain ⟨k, n, hk, rfl, rfl, n0, n1, hn⟩ := hrel
    by_cases hlt : k < H.size
    · have hm : isDig H[k] = true := (List.all_eq_true.1 (by rw [P.out.head]; exact head_dig P.out.good : H.data.toList.all isDig = true)) H[k] (by rw [Array.mem_toList_iff]; exact Array.getElem_mem hlt)
      obtain ⟨d1, d2⟩ := isDig_yes hm
      have HNX := Lib.hid (valM_next H k hlt n hn.out)
      have hw2 : IntKind.u8.wrap ((H[k].toNat : Int) - 48) = (H[k].toNat : Int) - 48 := by
        rw [show (H[k].toNat : Int) - 48 = ((H[k].toNat - 48 : Nat) : Int) by omega]
        exact IntWalk.u8_in _ (by omega)
      have hw3 : IntKind.i64.wrap ((H[k].toNat : Int) - 48) = (H[k].toNat : Int) - 48 := IntWalk.i64_in _ (by omega)
      clear hm
      go_wp2
      go_round
      case rel => exact ⟨k + 1, _, by omega, rfl, by go_num, by omega, by omega, Lib.hid HNX.out⟩
      case measure => simp [intOf]; omega
    · have hnv : n = v := by rw [hn.out, List.take_of_length_le (by rw [size_list]; omega), P.out.head]; exact P.out.val
      subst hnv
      clear hn
      go_upto_region 13 with fail
      rw [← HR0.out]
      have HX := Lib.hid (refX_of (x := (n + 1)) P.out.minus ((up_of P.out).trans HU.out) P.out.val rfl)
      by_cases hr : inRange (n + 1) = true
      · have HR := Lib.hid hr
        clear hr
        go_wp2_with fail
        refine (withinR_yes _ _ HR.out).mono ?_
        rintro e w' ⟨rfl, rfl⟩
        go_wp2_with fail
        go_ret2
        exact readEnd_yes P.out.good HX.out HR.out
      · have HR := Lib.hid hr
        clear hr
        go_wp2_with fail
        refine (withinR_no _ _ HR.out).mono ?_
        rintro e w' ⟨rfl, rfl⟩
        go_wp2_with fail
        go_ret2
        exact readEnd_no P.out.good HX.out HR.out

set_option maxHeartbeats 3200000 in
theorem readR_highm (s A B H R : ByteArray) (v : Int) (w : World) (P : Hid (Parts s A B H R true v)) (h0 : R = B.extract 4 B.size) (hR : 4 < B.size) (h5 : fiveUp R.data.toList = true) :
    Calls Tryd.prog 10 #[.string s] w (ReadEnd s.data.toList w) := by
  have a40 := P.out.a40
  have b40 := P.out.b40
  have h60 := P.out.h60
  have hR' : (4 : Int) < (B.size : Int) := by omega
  have hRs : R.size = B.size - 4 := by rw [h0]; simp
  have hR0 : 0 < R.size := by omega
  have h5' := h5
  rw [five_at R hR0] at h5'
  have e1 : R.toList.isEmpty = false := by rw [Lib.toList_data, List.isEmpty_eq_false_iff]; intro e; have := congrArg List.length e; rw [size_list, List.length_nil] at this; omega
  have HR0 := Lib.hid h0
  have e3 : (53 : Int) ≤ (R[0].toNat : Int) := by
    have h6 : 53 ≤ R[0].toNat := by simpa using h5'
    omega
  have HU0 : Hid (moreR R.data.toList true = someUp R.data.toList) := Lib.hid (by unfold moreR; rw [h5]; rfl)
  have HS0 := Lib.hid (someK_one R hR0)
  have hRl : R.size ≤ 40 := by omega
  clear h5 h5' h0 hRs
  go_enter Tryd.func10, Tryd.ntmps10
  go_wp2_with fail
  refine (P.out.form _).mono ?_
  rintro e w' ⟨rfl, rfl⟩
  go_wp2_with fail
  rw [← P.out.sum]
  go_loop [8, 10] (fun a i => ∃ (k : Nat) (n : Int), k ≤ H.size ∧ a = .int .i64 n ∧ i = .int .i64 k ∧ 0 ≤ n ∧ n ≤ 1099511627776 ∧ Hid (n = valM 0 (H.data.toList.take k))) (fun _ i => H.size - (intOf i).toNat)
  case atStart => exact ⟨0, 0, by omega, rfl, rfl, by omega, by omega, Lib.hid rfl⟩
  case round =>
    obtain ⟨k, n, hk, rfl, rfl, n0, n1, hn⟩ := hrel
    by_cases hlt : k < H.size
    · have hm : isDig H[k] = true := (List.all_eq_true.1 (by rw [P.out.head]; exact head_dig P.out.good : H.data.toList.all isDig = true)) H[k] (by rw [Array.mem_toList_iff]; exact Array.getElem_mem hlt)
      obtain ⟨d1, d2⟩ := isDig_yes hm
      have HNX := Lib.hid (valM_next H k hlt n hn.out)
      have hw2 : IntKind.u8.wrap ((H[k].toNat : Int) - 48) = (H[k].toNat : Int) - 48 := by
        rw [show (H[k].toNat : Int) - 48 = ((H[k].toNat - 48 : Nat) : Int) by omega]
        exact IntWalk.u8_in _ (by omega)
      have hw3 : IntKind.i64.wrap ((H[k].toNat : Int) - 48) = (H[k].toNat : Int) - 48 := IntWalk.i64_in _ (by omega)
      clear hm
      go_wp2
      go_round
      case rel => exact ⟨k + 1, _, by omega, rfl, by go_num, by omega, by omega, Lib.hid HNX.out⟩
      case measure => simp [intOf]; omega
    · have hnv : n = v := by rw [hn.out, List.take_of_length_le (by rw [size_list]; omega), P.out.head]; exact P.out.val
      subst hnv
      clear hn
      go_upto_region 13 with fail
      rw [← HR0.out]
      go_wp2_with fail
      go_loop [13, 14] (fun b i => ∃ (k : Nat) (q : Bool), 1 ≤ k ∧ k ≤ R.size ∧ b = .bool q ∧ i = .int .i64 k ∧ Hid (q = someK R.data.toList k)) (fun _ i => R.size - (intOf i).toNat)
      case atStart => exact ⟨1, _, by omega, by omega, rfl, rfl, Lib.hid (by rw [HS0.out]; exact decide_eq_decide.2 (by omega))⟩
      case round =>
        obtain ⟨j, q, hj1, hj2, rfl, rfl, hq⟩ := hrel
        by_cases hjl : j < R.size
        · have HQ := Lib.hid (someK_next R j hjl hj1)
          cases q
          · by_cases hb : 48 < R[j].toNat
            · have hb2 : (48 : Int) < (R[j].toNat : Int) := by omega
              have HQ2 : Hid (true = someK R.data.toList (j + 1)) := Lib.hid (by rw [HQ.out, decide_eq_true hb, Bool.or_true])
              clear hb
              go_wp2
              go_round
              case rel => exact ⟨j + 1, true, by omega, by omega, rfl, by go_num, HQ2⟩
              case measure => simp [intOf]; omega
            · have hb2 : ¬ (48 : Int) < (R[j].toNat : Int) := by omega
              have HQ2 : Hid (false = someK R.data.toList (j + 1)) := Lib.hid (by rw [HQ.out, decide_eq_false hb, ← hq.out]; rfl)
              clear hb
              go_wp2
              go_round
              case rel => exact ⟨j + 1, false, by omega, by omega, rfl, by go_num, HQ2⟩
              case measure => simp [intOf]; omega
          · have HQ2 : Hid (true = someK R.data.toList (j + 1)) := Lib.hid (by rw [HQ.out, ← hq.out]; rfl)
            go_wp2
            go_round
            case rel => exact ⟨j + 1, true, by omega, by omega, rfl, by go_num, HQ2⟩
            case measure => simp [intOf]; omega
        · have hqq : q = someUp R.data.toList := by rw [hq.out]; unfold someK; rw [List.take_of_length_le (by rw [size_list]; omega)]
          have HQQ := Lib.hid hqq
          clear hqq hq
          cases q
          · have HU : Hid (moreR R.data.toList true = false) := Lib.hid (HU0.out.trans HQQ.out.symm)
            have HX := Lib.hid (refX_of (x := (-n)) P.out.minus ((up_of P.out).trans HU.out) P.out.val rfl)
            by_cases hr : inRange (-n) = true
            · have HR := Lib.hid hr
              clear hr
              go_wp2_with fail
              refine (withinR_yes _ _ HR.out).mono ?_
              rintro e w' ⟨rfl, rfl⟩
              go_wp2_with fail
              go_ret2
              exact readEnd_yes P.out.good HX.out HR.out
            · have HR := Lib.hid hr
              clear hr
              go_wp2_with fail
              refine (withinR_no _ _ HR.out).mono ?_
              rintro e w' ⟨rfl, rfl⟩
              go_wp2_with fail
              go_ret2
              exact readEnd_no P.out.good HX.out HR.out
          · have HU : Hid (moreR R.data.toList true = true) := Lib.hid (HU0.out.trans HQQ.out.symm)
            have HX := Lib.hid (refX_of (x := (-(n + 1))) P.out.minus ((up_of P.out).trans HU.out) P.out.val rfl)
            by_cases hr : inRange (-(n + 1)) = true
            · have HR := Lib.hid hr
              clear hr
              go_wp2_with fail
              refine (withinR_yes _ _ HR.out).mono ?_
              rintro e w' ⟨rfl, rfl⟩
              go_wp2_with fail
              go_ret2
              exact readEnd_yes P.out.good HX.out HR.out
            · have HR := Lib.hid hr
              clear hr
              go_wp2_with fail
              refine (withinR_no _ _ HR.out).mono ?_
              rintro e w' ⟨rfl, rfl⟩
              go_wp2_with fail
              go_ret2
              exact readEnd_no P.out.good HX.out HR.out
end Go.Proofs.YtmimeconkmfkfaaDoor
