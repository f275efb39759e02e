/-
  For all arguments PredictBack returns true: Decode takes back what Encode made (no condition on the arguments).
-/
import Derived.Test.YtmajbjjfebbnlaaPrdTl
namespace Go.Proofs.Ytmajbjjfebbnlaa
open Go.ChangeShapes Go.WideShapes Go.ChangeAt Go.RowKit Oct Prd

theorem back_pure {pr co cl : Int} {l : List UInt8} (hok : okP pr co cl = true) (hm : l.length % (co * cl).toNat = 0) : ∃ E, encF pr co cl l = (0, E) ∧ decF pr co cl E = (0, l) ∧ E.length ≤ 2 * l.length := by
  have hok2 : ¬ okP pr co cl = false := by rw [hok]; simp
  unfold encF decF
  by_cases hp : pr = 1
  · refine ⟨l, ?_, ?_, by omega⟩
    · rw [if_neg hok2, if_pos hp]
    · rw [if_neg hok2, if_pos hp]
  · obtain ⟨p, c, k, n, rfl, rfl, rfl, hn, hn', hn1, hn2, hc1, hc2, hk2, hpp⟩ := ok_parts hok
    have hpr : p = 2 ∨ 10 ≤ p ∧ p ≤ 15 := by omega
    have htl := tgs_le p
    rw [hn'] at hm ⊢
    obtain ⟨m, hm'⟩ : ∃ m, l.length / n = m := ⟨_, rfl⟩
    have hlm : l.length = n * m := by rw [← hm']; exact (Nat.mul_div_cancel' (Nat.dvd_of_mod_eq_zero hm)).symm
    have hE : (encR p c n l m).length = (tgs p + n) * m := encR_len hlm m (Nat.le_refl _)
    refine ⟨encR p c n l m, ?_, ?_, ?_⟩
    · rw [if_neg hok2, if_neg hp, if_neg (by omega), hm', Int.toNat_natCast, Int.toNat_natCast]
    · rw [if_neg hok2, if_neg hp, Int.toNat_natCast, Int.toNat_natCast, hE, Nat.add_comm n (tgs p), if_neg (by rw [Nat.mul_mod_right]; simp), Nat.mul_div_cancel_left m (by omega), dec_enc hpr hc1 hlm m (Nat.le_refl _)]
      unfold decRes
      rw [← hlm, List.take_length]
    · rw [hE, hlm, Nat.add_mul]
      have h1 : tgs p * m ≤ n * m := Nat.mul_le_mul_right m (by omega)
      omega
theorem rowN_no {pr co cl : Int} (h : okP pr co cl = false) : rowN pr co cl = 0 := by unfold rowN; rw [h]; rfl

set_option maxRecDepth 100000 in
set_option maxHeartbeats 16000000 in
theorem prdBack_in (s : ByteArray) (pr co cl : Int) (w : World) (hs : s.size ≤ 1000) (h0 : I64 pr) (h1 : I64 co) (h2 : I64 cl) (hok : okP pr co cl = true) :
    Calls Try.prog 5 #[.agg #[.int .i64 pr, .int .i64 co, .int .i64 cl], .string s] w fun e w' => e = .returned (.bool true) ∧ Below w.heap.size w w' := by
  obtain ⟨n, hn, hn1, hn2, hrow⟩ : ∃ n : Nat, (co * cl).toNat = n ∧ 1 ≤ n ∧ n ≤ 8192 ∧ rowN pr co cl = (n : Int) := by
    obtain ⟨p, c, k, n, rfl, rfl, rfl, hn, hn', hn1, hn2, _⟩ := ok_parts hok
    refine ⟨n, hn', hn1, hn2, ?_⟩
    unfold rowN
    rw [if_pos hok, ← hn]
    push_cast
    rfl
  obtain ⟨r, hr⟩ : ∃ r, s.size % n = r := ⟨_, rfl⟩
  have hrl : r ≤ s.size := by rw [← hr]; exact Nat.mod_le _ _
  obtain ⟨t, ht⟩ : ∃ t, s.size - r = t := ⟨_, rfl⟩
  obtain ⟨T, hT⟩ : ∃ T, s.extract 0 t = T := ⟨_, rfl⟩
  have hTs : T.size = t := by rw [← hT, ByteArray.size_extract]; omega
  have hTl : T.data.toList.length = t := by rw [← hTs]; simp
  have htm : t % n = 0 := by
    rw [← ht, ← hr]
    have := Nat.div_add_mod s.size n
    have h3 : s.size - s.size % n = n * (s.size / n) := by omega
    rw [h3]
    exact Nat.mul_mod_right _ _
  obtain ⟨E, hE, hD, hEl⟩ := back_pure (l := T.data.toList) hok (by rw [hTl, hn]; exact htm)
  obtain ⟨Y, hY⟩ : ∃ Y : ByteArray, ⟨E.toArray⟩ = Y := ⟨_, rfl⟩
  have hYl : Y.data.toList = E := by rw [← hY]
  have hYs : Y.size = E.length := by rw [← hYl]; simp
  have P1 := Lib.hid (fun W : World => encP_any T pr co cl W (by omega) h0 h1 h2)
  have P2 := Lib.hid (fun W : World => decP_any Y pr co cl W (by omega) h0 h1 h2)
  unfold CodeIs at P1 P2
  rw [hE] at P1
  rw [hYl, hD] at P2
  have hTT : (⟨T.data.toList.toArray⟩ : ByteArray) = T := list_arr rfl
  simp only [hTT] at P2
  simp only [hY] at P1
  have P3 := Lib.hid (fun W : World => checkD_any pr co cl W h0 h1 h2)
  have P4 := Lib.hid (fun W : World => rowP_any pr co cl W h0 h1 h2)
  rw [chk_yes hok] at P3
  rw [hrow] at P4
  unfold parmsV at P1 P2 P3 P4
  have f1 : ¬ (1000 : Int) < (s.size : Int) := by omega
  have f2 : ¬ (n : Int) < 1 := by omega
  have f3 : ¬ (n : Int) = 0 := by omega
  have f4 : (s.size : Int).tmod (n : Int) = (r : Int) := by rw [← hr]; exact (Int.ofNat_tmod _ _).symm
  have f5 : (s.size : Int) - (r : Int) = (t : Int) := by omega
  have f6 : (0 : Int) ≤ (t : Int) := by omega
  have f7 : (t : Int) ≤ (s.size : Int) := by omega
  obtain ⟨N, hN⟩ : ∃ N, w.heap.size = N := ⟨_, rfl⟩
  obtain ⟨V, hV⟩ : ∃ V, w.alloc (.cells #[.int .i64 pr, .int .i64 co, .int .i64 cl] 23) = V := ⟨_, rfl⟩
  have hVs : V.heap.size = N + 1 := by rw [← hV, World.size_alloc, hN]
  have bP : Blk V N 23 #[.int .i64 pr, .int .i64 co, .int .i64 cl] := by rw [← hV, ← hN]; exact Blk.new w _ _
  have HP := Lib.hid (fun (W : World) (hb : Below (N + 1) V W) => bP.below hb (by omega))
  have HVN := Lib.hid (show Below N w V by rw [← hV, ← hN]; exact (Below.refl _ w).alloc (Nat.le_refl _) _)
  have HB0 := Lib.hid (show Below (N + 1) V V by rw [← hVs]; exact Below.refl _ V)
  have HS0 := Lib.hid (show N + 1 ≤ V.heap.size by omega)
  have p0 := bP.cell 0
  have p1 := bP.cell 1
  have p2 := bP.cell 2
  simp only [List.getElem?_toArray, List.getElem?_cons_zero, List.getElem?_cons_succ] at p0 p1 p2
  have HTX := Lib.hid hT
  clear hE hD hEl hY hYl hYs hTs hTl htm hok hrow hn hr ht hrl h0 h1 h2 bP hVs hs hT hTT hn1 hn2
  go_enter Try.func5, Try.ntmps5
  rw [hN]
  go_wp2_with fail
  try rw [hV]
  clear hN hV
  refine (P4.out _).mono ?_
  rintro e w1 ⟨rfl, hb⟩
  have HB1 := Lib.hid (HB0.out.trans (hb.mono HS0.out))
  have HS1 := Lib.hid (Nat.le_trans HS0.out hb.size)
  clear hb p0 p1 p2
  have p0 := (HP.out w1 HB1.out).cell 0
  have p1 := (HP.out w1 HB1.out).cell 1
  have p2 := (HP.out w1 HB1.out).cell 2
  simp only [List.getElem?_toArray, List.getElem?_cons_zero, List.getElem?_cons_succ] at p0 p1 p2
  go_wp2_with fail
  refine (P3.out _).mono ?_
  rintro e w2 ⟨rfl, hb⟩
  have HB2 := Lib.hid (HB1.out.trans (hb.mono HS1.out))
  have HS2 := Lib.hid (Nat.le_trans HS1.out hb.size)
  clear hb p0 p1 p2
  have p0 := (HP.out w2 HB2.out).cell 0
  have p1 := (HP.out w2 HB2.out).cell 1
  have p2 := (HP.out w2 HB2.out).cell 2
  simp only [List.getElem?_toArray, List.getElem?_cons_zero, List.getElem?_cons_succ] at p0 p1 p2
  go_upto_region 6 with fail
  go_upto_region 7 with fail
  rw [HTX.out]
  go_wp2_with fail
  refine (P1.out _).mono ?_
  rintro e w3 ⟨rfl, hb⟩
  have HB3 := Lib.hid (HB2.out.trans (hb.mono HS2.out))
  have HS3 := Lib.hid (Nat.le_trans HS2.out hb.size)
  clear hb p0 p1 p2
  have p0 := (HP.out w3 HB3.out).cell 0
  have p1 := (HP.out w3 HB3.out).cell 1
  have p2 := (HP.out w3 HB3.out).cell 2
  simp only [List.getElem?_toArray, List.getElem?_cons_zero, List.getElem?_cons_succ] at p0 p1 p2
  go_wp2_with fail
  refine (P2.out _).mono ?_
  rintro e w4 ⟨rfl, hb⟩
  have HB4 := Lib.hid (HB3.out.trans (hb.mono HS3.out))
  have HS4 := Lib.hid (Nat.le_trans HS3.out hb.size)
  clear hb p0 p1 p2
  have p0 := (HP.out w4 HB4.out).cell 0
  have p1 := (HP.out w4 HB4.out).cell 1
  have p2 := (HP.out w4 HB4.out).cell 2
  simp only [List.getElem?_toArray, List.getElem?_cons_zero, List.getElem?_cons_succ] at p0 p1 p2
  go_wp2_with fail
  refine (prdLives_any _).mono ?_
  rintro e w5 ⟨rfl, hb⟩
  have HB5 := Lib.hid (HB4.out.trans (hb.mono HS4.out))
  have HS5 := Lib.hid (Nat.le_trans HS4.out hb.size)
  clear hb p0 p1 p2
  have p0 := (HP.out w5 HB5.out).cell 0
  have p1 := (HP.out w5 HB5.out).cell 1
  have p2 := (HP.out w5 HB5.out).cell 2
  simp only [List.getElem?_toArray, List.getElem?_cons_zero, List.getElem?_cons_succ] at p0 p1 p2
  go_wp2_with fail
  go_ret
  exact ⟨rfl, HVN.out.trans (HB5.out.mono (by omega))⟩

set_option maxRecDepth 100000 in
set_option maxHeartbeats 16000000 in
theorem prdBack_big (s : ByteArray) (pr co cl : Int) (w : World) (hs : ¬ s.size ≤ 1000) (hok : okP pr co cl = true) (h0 : I64 pr) (h1 : I64 co) (h2 : I64 cl) :
    Calls Try.prog 5 #[.agg #[.int .i64 pr, .int .i64 co, .int .i64 cl], .string s] w fun e w' => e = .returned (.bool true) ∧ Below w.heap.size w w' := by
  have P3 := Lib.hid (fun W : World => checkD_any pr co cl W h0 h1 h2)
  have P4 := Lib.hid (fun W : World => rowP_any pr co cl W h0 h1 h2)
  rw [chk_yes hok] at P3
  obtain ⟨n, hn⟩ : ∃ n, rowN pr co cl = n := ⟨_, rfl⟩
  rw [hn] at P4
  clear hn
  unfold parmsV at P3 P4
  have f1 : (1000 : Int) < (s.size : Int) := by omega
  obtain ⟨N, hN⟩ : ∃ N, w.heap.size = N := ⟨_, rfl⟩
  obtain ⟨V, hV⟩ : ∃ V, w.alloc (.cells #[.int .i64 pr, .int .i64 co, .int .i64 cl] 23) = V := ⟨_, rfl⟩
  have hVs : V.heap.size = N + 1 := by rw [← hV, World.size_alloc, hN]
  have bP : Blk V N 23 #[.int .i64 pr, .int .i64 co, .int .i64 cl] := by rw [← hV, ← hN]; exact Blk.new w _ _
  have HP := Lib.hid (fun (W : World) (hb : Below (N + 1) V W) => bP.below hb (by omega))
  have HVN := Lib.hid (show Below N w V by rw [← hV, ← hN]; exact (Below.refl _ w).alloc (Nat.le_refl _) _)
  have HB0 := Lib.hid (show Below (N + 1) V V by rw [← hVs]; exact Below.refl _ V)
  have HS0 := Lib.hid (show N + 1 ≤ V.heap.size by omega)
  have p0 := bP.cell 0
  have p1 := bP.cell 1
  have p2 := bP.cell 2
  simp only [List.getElem?_toArray, List.getElem?_cons_zero, List.getElem?_cons_succ] at p0 p1 p2
  clear hok h0 h1 h2 bP hVs hs
  go_enter Try.func5, Try.ntmps5
  rw [hN]
  go_wp2_with fail
  try rw [hV]
  clear hN hV
  refine (P4.out _).mono ?_
  rintro e w1 ⟨rfl, hb⟩
  have HB1 := Lib.hid (HB0.out.trans (hb.mono HS0.out))
  have HS1 := Lib.hid (Nat.le_trans HS0.out hb.size)
  clear hb p0 p1 p2
  have p0 := (HP.out w1 HB1.out).cell 0
  have p1 := (HP.out w1 HB1.out).cell 1
  have p2 := (HP.out w1 HB1.out).cell 2
  simp only [List.getElem?_toArray, List.getElem?_cons_zero, List.getElem?_cons_succ] at p0 p1 p2
  go_wp2_with fail
  refine (P3.out _).mono ?_
  rintro e w2 ⟨rfl, hb⟩
  have HB2 := Lib.hid (HB1.out.trans (hb.mono HS1.out))
  have HS2 := Lib.hid (Nat.le_trans HS1.out hb.size)
  clear hb p0 p1 p2
  have p0 := (HP.out w2 HB2.out).cell 0
  have p1 := (HP.out w2 HB2.out).cell 1
  have p2 := (HP.out w2 HB2.out).cell 2
  simp only [List.getElem?_toArray, List.getElem?_cons_zero, List.getElem?_cons_succ] at p0 p1 p2
  go_wp2_with fail
  refine (prdLives_any _).mono ?_
  rintro e w3 ⟨rfl, hb⟩
  have HB3 := Lib.hid (HB2.out.trans (hb.mono HS2.out))
  have HS3 := Lib.hid (Nat.le_trans HS2.out hb.size)
  clear hb p0 p1 p2
  have p0 := (HP.out w3 HB3.out).cell 0
  have p1 := (HP.out w3 HB3.out).cell 1
  have p2 := (HP.out w3 HB3.out).cell 2
  simp only [List.getElem?_toArray, List.getElem?_cons_zero, List.getElem?_cons_succ] at p0 p1 p2
  go_wp2_with fail
  go_ret
  exact ⟨rfl, HVN.out.trans (HB3.out.mono (by omega))⟩

set_option maxRecDepth 100000 in
set_option maxHeartbeats 16000000 in
theorem prdBack_bigno (s : ByteArray) (pr co cl : Int) (w : World) (hs : ¬ s.size ≤ 1000) (hok : okP pr co cl = false) (h0 : I64 pr) (h1 : I64 co) (h2 : I64 cl) :
    Calls Try.prog 5 #[.agg #[.int .i64 pr, .int .i64 co, .int .i64 cl], .string s] w fun e w' => e = .returned (.bool true) ∧ Below w.heap.size w w' := by
  have P3 := Lib.hid (fun W : World => checkD_any pr co cl W h0 h1 h2)
  have P4 := Lib.hid (fun W : World => rowP_any pr co cl W h0 h1 h2)
  rw [chk_no hok] at P3
  rw [rowN_no hok] at P4
  unfold parmsV at P3 P4
  have f1 : (1000 : Int) < (s.size : Int) := by omega
  obtain ⟨N, hN⟩ : ∃ N, w.heap.size = N := ⟨_, rfl⟩
  obtain ⟨V, hV⟩ : ∃ V, w.alloc (.cells #[.int .i64 pr, .int .i64 co, .int .i64 cl] 23) = V := ⟨_, rfl⟩
  have hVs : V.heap.size = N + 1 := by rw [← hV, World.size_alloc, hN]
  have bP : Blk V N 23 #[.int .i64 pr, .int .i64 co, .int .i64 cl] := by rw [← hV, ← hN]; exact Blk.new w _ _
  have HP := Lib.hid (fun (W : World) (hb : Below (N + 1) V W) => bP.below hb (by omega))
  have HVN := Lib.hid (show Below N w V by rw [← hV, ← hN]; exact (Below.refl _ w).alloc (Nat.le_refl _) _)
  have HB0 := Lib.hid (show Below (N + 1) V V by rw [← hVs]; exact Below.refl _ V)
  have HS0 := Lib.hid (show N + 1 ≤ V.heap.size by omega)
  have p0 := bP.cell 0
  have p1 := bP.cell 1
  have p2 := bP.cell 2
  simp only [List.getElem?_toArray, List.getElem?_cons_zero, List.getElem?_cons_succ] at p0 p1 p2
  clear hok h0 h1 h2 bP hVs hs
  go_enter Try.func5, Try.ntmps5
  rw [hN]
  go_wp2_with fail
  try rw [hV]
  clear hN hV
  refine (P4.out _).mono ?_
  rintro e w1 ⟨rfl, hb⟩
  have HB1 := Lib.hid (HB0.out.trans (hb.mono HS0.out))
  have HS1 := Lib.hid (Nat.le_trans HS0.out hb.size)
  clear hb p0 p1 p2
  have p0 := (HP.out w1 HB1.out).cell 0
  have p1 := (HP.out w1 HB1.out).cell 1
  have p2 := (HP.out w1 HB1.out).cell 2
  simp only [List.getElem?_toArray, List.getElem?_cons_zero, List.getElem?_cons_succ] at p0 p1 p2
  go_wp2_with fail
  refine (P3.out _).mono ?_
  rintro e w2 ⟨rfl, hb⟩
  have HB2 := Lib.hid (HB1.out.trans (hb.mono HS1.out))
  have HS2 := Lib.hid (Nat.le_trans HS1.out hb.size)
  clear hb p0 p1 p2
  have p0 := (HP.out w2 HB2.out).cell 0
  have p1 := (HP.out w2 HB2.out).cell 1
  have p2 := (HP.out w2 HB2.out).cell 2
  simp only [List.getElem?_toArray, List.getElem?_cons_zero, List.getElem?_cons_succ] at p0 p1 p2
  go_wp2_with fail
  refine (prdLives_any _).mono ?_
  rintro e w3 ⟨rfl, hb⟩
  have HB3 := Lib.hid (HB2.out.trans (hb.mono HS2.out))
  have HS3 := Lib.hid (Nat.le_trans HS2.out hb.size)
  clear hb p0 p1 p2
  have p0 := (HP.out w3 HB3.out).cell 0
  have p1 := (HP.out w3 HB3.out).cell 1
  have p2 := (HP.out w3 HB3.out).cell 2
  simp only [List.getElem?_toArray, List.getElem?_cons_zero, List.getElem?_cons_succ] at p0 p1 p2
  go_wp2_with fail
  go_ret
  exact ⟨rfl, HVN.out.trans (HB3.out.mono (by omega))⟩

set_option maxRecDepth 100000 in
set_option maxHeartbeats 16000000 in
theorem prdBack_no (s : ByteArray) (pr co cl : Int) (w : World) (hs : s.size ≤ 1000) (hok : okP pr co cl = false) (h0 : I64 pr) (h1 : I64 co) (h2 : I64 cl) :
    Calls Try.prog 5 #[.agg #[.int .i64 pr, .int .i64 co, .int .i64 cl], .string s] w fun e w' => e = .returned (.bool true) ∧ Below w.heap.size w w' := by
  have P3 := Lib.hid (fun W : World => checkD_any pr co cl W h0 h1 h2)
  have P4 := Lib.hid (fun W : World => rowP_any pr co cl W h0 h1 h2)
  rw [chk_no hok] at P3
  rw [rowN_no hok] at P4
  unfold parmsV at P3 P4
  have f1 : ¬ (1000 : Int) < (s.size : Int) := by omega
  obtain ⟨N, hN⟩ : ∃ N, w.heap.size = N := ⟨_, rfl⟩
  obtain ⟨V, hV⟩ : ∃ V, w.alloc (.cells #[.int .i64 pr, .int .i64 co, .int .i64 cl] 23) = V := ⟨_, rfl⟩
  have hVs : V.heap.size = N + 1 := by rw [← hV, World.size_alloc, hN]
  have bP : Blk V N 23 #[.int .i64 pr, .int .i64 co, .int .i64 cl] := by rw [← hV, ← hN]; exact Blk.new w _ _
  have HP := Lib.hid (fun (W : World) (hb : Below (N + 1) V W) => bP.below hb (by omega))
  have HVN := Lib.hid (show Below N w V by rw [← hV, ← hN]; exact (Below.refl _ w).alloc (Nat.le_refl _) _)
  have HB0 := Lib.hid (show Below (N + 1) V V by rw [← hVs]; exact Below.refl _ V)
  have HS0 := Lib.hid (show N + 1 ≤ V.heap.size by omega)
  have p0 := bP.cell 0
  have p1 := bP.cell 1
  have p2 := bP.cell 2
  simp only [List.getElem?_toArray, List.getElem?_cons_zero, List.getElem?_cons_succ] at p0 p1 p2
  clear hok h0 h1 h2 bP hVs hs
  go_enter Try.func5, Try.ntmps5
  rw [hN]
  go_wp2_with fail
  try rw [hV]
  clear hN hV
  refine (P4.out _).mono ?_
  rintro e w1 ⟨rfl, hb⟩
  have HB1 := Lib.hid (HB0.out.trans (hb.mono HS0.out))
  have HS1 := Lib.hid (Nat.le_trans HS0.out hb.size)
  clear hb p0 p1 p2
  have p0 := (HP.out w1 HB1.out).cell 0
  have p1 := (HP.out w1 HB1.out).cell 1
  have p2 := (HP.out w1 HB1.out).cell 2
  simp only [List.getElem?_toArray, List.getElem?_cons_zero, List.getElem?_cons_succ] at p0 p1 p2
  go_wp2_with fail
  refine (P3.out _).mono ?_
  rintro e w2 ⟨rfl, hb⟩
  have HB2 := Lib.hid (HB1.out.trans (hb.mono HS1.out))
  have HS2 := Lib.hid (Nat.le_trans HS1.out hb.size)
  clear hb p0 p1 p2
  have p0 := (HP.out w2 HB2.out).cell 0
  have p1 := (HP.out w2 HB2.out).cell 1
  have p2 := (HP.out w2 HB2.out).cell 2
  simp only [List.getElem?_toArray, List.getElem?_cons_zero, List.getElem?_cons_succ] at p0 p1 p2
  go_wp2_with fail
  refine (P3.out _).mono ?_
  rintro e w3 ⟨rfl, hb⟩
  have HB3 := Lib.hid (HB2.out.trans (hb.mono HS2.out))
  have HS3 := Lib.hid (Nat.le_trans HS2.out hb.size)
  clear hb p0 p1 p2
  have p0 := (HP.out w3 HB3.out).cell 0
  have p1 := (HP.out w3 HB3.out).cell 1
  have p2 := (HP.out w3 HB3.out).cell 2
  simp only [List.getElem?_toArray, List.getElem?_cons_zero, List.getElem?_cons_succ] at p0 p1 p2
  go_wp2_with fail
  refine (prdLives_any _).mono ?_
  rintro e w4 ⟨rfl, hb⟩
  have HB4 := Lib.hid (HB3.out.trans (hb.mono HS3.out))
  have HS4 := Lib.hid (Nat.le_trans HS3.out hb.size)
  clear hb p0 p1 p2
  have p0 := (HP.out w4 HB4.out).cell 0
  have p1 := (HP.out w4 HB4.out).cell 1
  have p2 := (HP.out w4 HB4.out).cell 2
  simp only [List.getElem?_toArray, List.getElem?_cons_zero, List.getElem?_cons_succ] at p0 p1 p2
  go_wp2_with fail
  go_ret
  exact ⟨rfl, HVN.out.trans (HB4.out.mono (by omega))⟩

theorem prdBack_any (s : ByteArray) (pr co cl : Int) (w : World) (h0 : I64 pr) (h1 : I64 co) (h2 : I64 cl) :
    Calls Try.prog 5 #[.agg #[.int .i64 pr, .int .i64 co, .int .i64 cl], .string s] w fun e w' => e = .returned (.bool true) ∧ Below w.heap.size w w' := by
  by_cases hs : s.size ≤ 1000
  · by_cases hok : okP pr co cl = true
    · exact prdBack_in s pr co cl w hs h0 h1 h2 hok
    · exact prdBack_no s pr co cl w hs (by simpa using hok) h0 h1 h2
  · by_cases hok : okP pr co cl = true
    · exact prdBack_big s pr co cl w hs hok h0 h1 h2
    · exact prdBack_bigno s pr co cl w hs (by simpa using hok) h0 h1 h2

/-! ### The row. -/
theorem predictBack_laidOut : laidOutB Try.prog = true := by kernel_rfl
theorem predictBack_own : ownKnob Try.prog.godebug = none := by kernel_rfl
theorem predictBack_types (t : TypeId) (ht : t ∈ Try.f5.params.toList) : Try.prog.readableRec t = true ∧ t < Try.prog.types.size := by
  rw [Try.params5] at ht
  simp only [List.mem_cons, List.not_mem_nil, or_false] at ht
  rcases ht with rfl | rfl
  · exact ⟨by kernel_rfl, of_decide_eq_true (by kernel_rfl)⟩
  · exact ⟨by kernel_rfl, of_decide_eq_true (by kernel_rfl)⟩
theorem predictBack_fn {H : Type} (ds' : List (DataW H)) (h : ds'.length = Try.f5.params.size) : Rows.predictBackSpec.fn H ds' = { results := [.lit (.bool true)], args := ds' } := by
  have h' : ds'.length = 2 := h.trans (by kernel_rfl)
  match ds', h' with
  | [_, _], _ => rfl

set_option maxRecDepth 100000 in
theorem predictBack_lifted (os : Os) (started : os.Started) (H : Type) (enc : TypeId × Value → H) :
    ReturnsInHanded {} Try.checked os 5 .any (Rows.predictBackSpec.pre6 enc Try.prog Try.f5 Rows.predictBackRow.domain false) (Rows.predictBackSpec.post enc Try.prog Try.f5 false true false false) := by
  refine returnsInHanded_of_change_shaped (C := Try.checked) predictBack_own started (by kernel_rfl) Try.func5
    (ChangeSpec.witness6 (enc := enc) (C := Try.checked) false ⟨#[], #[.agg #[.int .i64 0, .int .i64 0, .int .i64 0], .string ⟨#[]⟩], []⟩ 8 (by kernel_rfl) (by kernel_rfl) (by kernel_rfl) (by kernel_rfl)) ?_
  intro W base args ds gs before hval0 hW hcnd0 _ hsh _
  have hval : ∀ (j : Nat) t v, Try.f5.params[j]? = some t → args[j]? = some v → Value.okWide Try.prog W .any base t v := hval0
  have hW' := hW
  obtain ⟨p, q, hA0, hV, rfl, hfz, hnd⟩ := hW
  have hA : DataW.TrodAll enc Try.prog W 0 (fun _ => true) true Try.f5.params.toList args.toList ds p := hA0
  rw [Try.params5] at hA hval
  obtain ⟨v0, vs0, d0, ds0, p0, q0, hargs, rfl, rfl, h0, r0⟩ := trodAll_cons hA
  obtain ⟨v1, vs1, d1, ds1, p1, q1, rfl, rfl, rfl, h1, r1⟩ := trodAll_cons r0
  obtain ⟨rfl, rfl, rfl⟩ := trodAll_nil r1
  obtain rfl : args = #[v0, v1] := by cases args; simp_all
  obtain ⟨rfl, rfl⟩ := trodVars_none hV
  obtain ⟨x0, x1, x2, y0, y1, y2, m0, rfl, rfl, rfl, t0, t1, t2⟩ := Go.Joins.open_agg3 Try.underlying23 (by kernel_rfl) (by kernel_rfl) (hval 0 23 v0 rfl rfl) h0
  obtain ⟨z0, e0, rfl, g0⟩ := DataW.trod_int Try.underlying3 t0
  obtain ⟨z1, e1, rfl, g1⟩ := DataW.trod_int Try.underlying3 t1
  obtain ⟨z2, e2, rfl, g2⟩ := DataW.trod_int Try.underlying3 t2
  obtain rfl : x0 = .int .i64 z0 := by injection e0
  obtain rfl : x1 = .int .i64 z1 := by injection e1
  obtain rfl : x2 = .int .i64 z2 := by injection e2
  obtain ⟨a1, rfl, rfl, rfl, w1⟩ := Go.ChangeMaps.open_string Try.underlying9 (hval 1 9 v1 rfl rfl) h1
  clear hA0 hval0
  refine (prdBack_any a1 z0 z1 z2 W (i64_wf g0) (i64_wf g1) (i64_wf g2)).mono fun e W' ⟨he, hb⟩ => ?_
  subst he
  exact ⟨_, rfl, post_keep predictBack_laidOut (fun t ht => predictBack_types t ht) rfl hW' (fun ds' hds => predictBack_fn ds' hds) (by kernel_rfl) Try.underlying4 hb⟩

theorem predictBack_holds : Rows.PredictBackSaid :=
  OpenClaim.holds_of_wide 5 Try.f5 rfl rfl rfl rfl rfl rfl rfl ⟨rfl, rfl, rfl, rfl, rfl⟩ rfl rfl rfl rfl rfl (by kernel_rfl) Try.func5 (by kernel_rfl)
    (of_decide_eq_true (by kernel_rfl)) (by unfold Func.isWrapper; first | (rw [if_pos (by decide +kernel)]; kernel_rfl) | (rw [if_neg (by decide +kernel)]; exact ⟨rfl, rfl⟩))
    (fun os started H enc _ => predictBack_lifted os started H enc)
end Go.Proofs.Ytmajbjjfebbnlaa
