/-
  The walks of the document's reader: take, Low, High.
-/
import Derived.Test.YtkcnhdponcbjaaaBitE
namespace Go.Proofs.Ytkcnhdponcbjaaa
open Go.RowKit Bt

set_option maxHeartbeats 2000000 in
theorem take1_any (g : Nat) (s : ByteArray) (a : Nat) (ord n : Int) (w : World) (h : Rd 82 w g s a ord) (h1 : a ≤ 8 * s.size) (hs : s.size ≤ 1000000000000000000) :
    Calls Try.prog 65 #[.pointer (some ⟨g, 0, none⟩), .int .i64 n, .int .i64 1] w (Took 82 w g s a ord n 1) := by
  have c2 : w.cell? ⟨g, 2, none⟩ = some (.int .i64 ord) := (h.cell 2).trans rfl
  have H := Lib.hid h
  clear h
  by_cases hn0 : n < 0
  · have R := Lib.hid (rd_bad (tot := 8 * s.size) (at_ := a) (l := s.data.toList) (ord := ord) (n := n) (o := 1) (by unfold bad; rw [decide_eq_true hn0]; rfl))
    go_enter Try.func65, Try.ntmps65
    go_wp2
    go_ret2
    exact took_of R.out.1 R.out.2.1 R.out.2.2.1 R.out.2.2.2 (Now.same H.out 0)
  by_cases hn1 : 24 < n
  · have R := Lib.hid (rd_bad (tot := 8 * s.size) (at_ := a) (l := s.data.toList) (ord := ord) (n := n) (o := 1) (by unfold bad; rw [decide_eq_true hn1]; simp))
    go_enter Try.func65, Try.ntmps65
    go_wp2
    go_ret2
    exact took_of R.out.1 R.out.2.1 R.out.2.2.1 R.out.2.2.2 (Now.same H.out 0)
  by_cases ho : ord ≠ 0 ∧ ord ≠ 1
  · have R := Lib.hid (rd_bad (tot := 8 * s.size) (at_ := a) (l := s.data.toList) (ord := ord) (n := n) (o := 1) (by unfold bad; rw [decide_eq_true ho.1, decide_eq_true ho.2]; simp))
    have b0 : (ord != 0) = true := by rw [bne_iff_ne]; exact ho.1
    have b1 : (ord != 1) = true := by rw [bne_iff_ne]; exact ho.2
    clear ho
    go_enter Try.func65, Try.ntmps65
    go_wp2
    go_ret2
    exact took_of R.out.1 R.out.2.1 R.out.2.2.1 R.out.2.2.2 (Now.same H.out 0)
  have hb' : bad ord n 1 = false := by unfold bad; simp; omega
  have hor : ord = 0 ∨ ord = 1 := by omega
  have HO := Lib.hid hor
  clear ho hor
  obtain ⟨m, rfl⟩ := Int.eq_ofNat_of_zero_le (show 0 ≤ n by omega)
  by_cases hl : ((8 * s.size : Nat) : Int) - a < (m : Nat)
  · have R := Lib.hid (rd_end (tot := 8 * s.size) (at_ := a) (l := s.data.toList) hb' hl)
    clear hb'
    rcases HO.out with hc | hc <;> subst hc
    all_goals
      go_enter Try.func65, Try.ntmps65
      go_wp2_with fail
      refine (qleft_any _ _ _ _ _ H.out h1 hs).mono ?_
      rintro e w' ⟨rfl, k, rfl⟩
      go_wp2
      go_ret2
      exact took_of R.out.1 R.out.2.1 R.out.2.2.1 R.out.2.2.2 (Now.same H.out k)
  have R := Lib.hid (rd_ok (tot := 8 * s.size) (at_ := a) (l := s.data.toList) hb' (by omega))
  clear hb'
  rcases HO.out with hc | hc <;> subst hc
  · go_enter Try.func65, Try.ntmps65
    go_wp2_with fail
    refine (qleft_any _ _ _ _ _ H.out h1 hs).mono ?_
    rintro e w' ⟨rfl, k0, rfl⟩
    go_wp2_with fail
    go_loopw [8, 9] (fun v i wr => ∃ (k : Nat) (q : Int), k ≤ m ∧ i = .int .i64 k ∧ v = .int .i64 (valL s.data.toList a k : Nat) ∧ (q = if 0 < k then 1 else 0) ∧ Now 82 w g s (a + k) q wr) (fun _ i _ => m - (intOf i).toNat)
    case atStart => exact ⟨0, _, Nat.zero_le _, rfl, rfl, rfl, Now.same H.out k0⟩
    case round =>
      obtain ⟨k, q, hk, rfl, rfl, hq, hnow⟩ := hrel
      obtain ⟨p, hp⟩ : ∃ p, a + k = p := ⟨_, rfl⟩
      have hp1 : p ≤ a + k := by omega
      have hp2 : a + k ≤ p := by omega
      rw [hp] at hnow
      have HP := Lib.hid hp
      have HQ := Lib.hid hq
      have HW := Lib.hid hnow
      clear hp hq hnow
      by_cases hlt : k < m
      · have c0 : wr.cell? ⟨g, 0, none⟩ = some (.string s) := (HW.out.2.cell 0).trans rfl
        have c1 : wr.cell? ⟨g, 1, none⟩ = some (.int .i64 (p : Int)) := (HW.out.2.cell 1).trans rfl
        have c2' : wr.cell? ⟨g, 2, none⟩ = some (.int .i64 q) := (HW.out.2.cell 2).trans rfl
        have f1 : wr.frozen? ⟨g, 1, none⟩ = false := HW.out.2.frozen 1
        have f2 : wr.frozen? ⟨g, 2, none⟩ = false := HW.out.2.frozen 2
        have d0 : (0 : Int) ≤ (p : Int) / 8 := by omega
        have d1 : (p : Int) / 8 < (s.size : Int) := by omega
        have d2 : ((p : Int) / 8).toNat = p / 8 := by omega
        have d3 : IntKind.i64.wrap ((p : Int) / 8) = (p : Int) / 8 := IntWalk.i64_in _ (by omega)
        have d4 : (p : Int).tmod 8 = ((p % 8 : Nat) : Int) := by rw [Int.tmod_eq_emod_of_nonneg (by omega)]; omega
        have d5 : p % 8 < 8 := Nat.mod_lt _ (by decide)
        go_wp2_with fail
        go_quiet (fail)
        clear d4
        go_wp2_with fail
        go_roundw
        case rel =>
          refine ⟨k + 1, 1, by omega, by go_num, ?_, by rw [if_pos (by omega)], ?_⟩
          · rw [low_ref s a k p (by omega) HP.out (by omega)]
          · rw [← Nat.add_assoc, HP.out]
            exact (((HW.out.drewN nq).at_ (p + 1)).ord 1)
        case measure => simp [intOf]; omega
      · obtain rfl : k = m := by omega
        go_wp2
        go_ret2
        have hw := HW.out
        rw [← HP.out] at hw
        exact took_of R.out.1 (R.out.2.1.trans rfl) (R.out.2.2.1.trans rfl) (R.out.2.2.2.trans (by rw [HQ.out]; split <;> split <;> omega)) hw
  · go_enter Try.func65, Try.ntmps65
    go_wp2_with fail
    refine (qleft_any _ _ _ _ _ H.out h1 hs).mono ?_
    rintro e w' ⟨rfl, k0, rfl⟩
    go_wp2_with fail
    go_loopw [8, 9] (fun v i wr => ∃ (k : Nat) (q : Int), k ≤ m ∧ i = .int .i64 k ∧ v = .int .i64 (valL s.data.toList a k : Nat) ∧ (q = if 0 < k then 1 else 1) ∧ Now 82 w g s (a + k) q wr) (fun _ i _ => m - (intOf i).toNat)
    case atStart => exact ⟨0, _, Nat.zero_le _, rfl, rfl, rfl, Now.same H.out k0⟩
    case round =>
      obtain ⟨k, q, hk, rfl, rfl, hq, hnow⟩ := hrel
      obtain ⟨p, hp⟩ : ∃ p, a + k = p := ⟨_, rfl⟩
      have hp1 : p ≤ a + k := by omega
      have hp2 : a + k ≤ p := by omega
      rw [hp] at hnow
      have HP := Lib.hid hp
      have HQ := Lib.hid hq
      have HW := Lib.hid hnow
      clear hp hq hnow
      by_cases hlt : k < m
      · have c0 : wr.cell? ⟨g, 0, none⟩ = some (.string s) := (HW.out.2.cell 0).trans rfl
        have c1 : wr.cell? ⟨g, 1, none⟩ = some (.int .i64 (p : Int)) := (HW.out.2.cell 1).trans rfl
        have c2' : wr.cell? ⟨g, 2, none⟩ = some (.int .i64 q) := (HW.out.2.cell 2).trans rfl
        have f1 : wr.frozen? ⟨g, 1, none⟩ = false := HW.out.2.frozen 1
        have f2 : wr.frozen? ⟨g, 2, none⟩ = false := HW.out.2.frozen 2
        have d0 : (0 : Int) ≤ (p : Int) / 8 := by omega
        have d1 : (p : Int) / 8 < (s.size : Int) := by omega
        have d2 : ((p : Int) / 8).toNat = p / 8 := by omega
        have d3 : IntKind.i64.wrap ((p : Int) / 8) = (p : Int) / 8 := IntWalk.i64_in _ (by omega)
        have d4 : (p : Int).tmod 8 = ((p % 8 : Nat) : Int) := by rw [Int.tmod_eq_emod_of_nonneg (by omega)]; omega
        have d5 : p % 8 < 8 := Nat.mod_lt _ (by decide)
        go_wp2_with fail
        go_quiet (fail)
        clear d4
        go_wp2_with fail
        go_roundw
        case rel =>
          refine ⟨k + 1, 1, by omega, by go_num, ?_, by rw [if_pos (by omega)], ?_⟩
          · rw [low_ref s a k p (by omega) HP.out (by omega)]
          · rw [← Nat.add_assoc, HP.out]
            exact (((HW.out.drewN nq).at_ (p + 1)).ord 1)
        case measure => simp [intOf]; omega
      · obtain rfl : k = m := by omega
        go_wp2
        go_ret2
        have hw := HW.out
        rw [← HP.out] at hw
        exact took_of R.out.1 (R.out.2.1.trans rfl) (R.out.2.2.1.trans rfl) (R.out.2.2.2.trans (by rw [HQ.out]; split <;> split <;> omega)) hw
end Go.Proofs.Ytkcnhdponcbjaaa
