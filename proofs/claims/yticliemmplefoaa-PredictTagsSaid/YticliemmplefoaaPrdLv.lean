/-
  The sample results of predict's laws.
-/
import Derived.Test.YticliemmplefoaaPrdW
import Derived.Test.YticliemmplefoaaPrdE
import Derived.Test.YticliemmplefoaaPrdF
namespace Go.Proofs.Yticliemmplefoaa
open Go.RowKit Oct Prd

theorem i64_small (n : Nat) (h : n ≤ 100000) : I64 (n : Int) := by unfold I64; omega
theorem plv_0 (w : World) : Calls Try.prog 5 #[.agg #[.int .i64 2, .int .i64 1, .int .i64 3], .string ⟨#[5, 7, 4]⟩] w fun e w' => e = .returned (.tuple #[.string ⟨#[5, 2, 253]⟩, .int .i64 0]) ∧ Below w.heap.size w w' :=
  (encP_any ⟨#[5, 7, 4]⟩ 2 1 3 w (by decide) (i64_small 2 (by decide)) (i64_small 1 (by decide)) (i64_small 3 (by decide))).mono fun e w' ⟨h1, h2⟩ => ⟨h1.trans (by kernel_rfl), h2⟩
theorem plv_1 (w : World) : Calls Try.prog 5 #[.agg #[.int .i64 12, .int .i64 1, .int .i64 2], .string ⟨#[1, 2, 3, 5]⟩] w fun e w' => e = .returned (.tuple #[.string ⟨#[2, 1, 2, 2, 2, 3]⟩, .int .i64 0]) ∧ Below w.heap.size w w' :=
  (encP_any ⟨#[1, 2, 3, 5]⟩ 12 1 2 w (by decide) (i64_small 12 (by decide)) (i64_small 1 (by decide)) (i64_small 2 (by decide))).mono fun e w' ⟨h1, h2⟩ => ⟨h1.trans (by kernel_rfl), h2⟩
theorem plv_2 (w : World) : Calls Try.prog 7 #[.agg #[.int .i64 2, .int .i64 1, .int .i64 3], .string ⟨#[5, 2, 253]⟩] w fun e w' => e = .returned (.tuple #[.string ⟨#[5, 7, 4]⟩, .int .i64 0]) ∧ Below w.heap.size w w' :=
  (decP_any ⟨#[5, 2, 253]⟩ 2 1 3 w (by decide) (i64_small 2 (by decide)) (i64_small 1 (by decide)) (i64_small 3 (by decide))).mono fun e w' ⟨h1, h2⟩ => ⟨h1.trans (by kernel_rfl), h2⟩
theorem plv_3 (w : World) : Calls Try.prog 7 #[.agg #[.int .i64 12, .int .i64 1, .int .i64 2], .string ⟨#[5, 0, 0]⟩] w fun e w' => e = .returned (.tuple #[.string ⟨#[]⟩, .int .i64 3]) ∧ Below w.heap.size w w' :=
  (decP_any ⟨#[5, 0, 0]⟩ 12 1 2 w (by decide) (i64_small 12 (by decide)) (i64_small 1 (by decide)) (i64_small 2 (by decide))).mono fun e w' ⟨h1, h2⟩ => ⟨h1.trans (by kernel_rfl), h2⟩
theorem plv_4 (w : World) : Calls Try.prog 5 #[.agg #[.int .i64 12, .int .i64 1, .int .i64 2], .string ⟨#[97]⟩] w fun e w' => e = .returned (.tuple #[.string ⟨#[]⟩, .int .i64 16]) ∧ Below w.heap.size w w' :=
  (encP_any ⟨#[97]⟩ 12 1 2 w (by decide) (i64_small 12 (by decide)) (i64_small 1 (by decide)) (i64_small 2 (by decide))).mono fun e w' ⟨h1, h2⟩ => ⟨h1.trans (by kernel_rfl), h2⟩
theorem plv_p (w : World) : Calls Try.prog 8 #[.int .u8 10, .int .u8 20, .int .u8 15] w fun e w' => e = .returned (.int .u8 15) ∧ w = w' :=
  (paeth_any 10 20 15 w).mono fun e w' ⟨h1, h2⟩ => ⟨h1.trans (by kernel_rfl), h2⟩
theorem plv_q (w : World) : Calls Try.prog 8 #[.int .u8 10, .int .u8 10, .int .u8 0] w fun e w' => e = .returned (.int .u8 10) ∧ w = w' :=
  (paeth_any 10 10 0 w).mono fun e w' ⟨h1, h2⟩ => ⟨h1.trans (by kernel_rfl), h2⟩
theorem plv_b (w : World) : Calls Try.prog 9 #[.string ⟨#[]⟩, .string ⟨#[7, 7, 7]⟩, .int .i64 1] w fun e w' => e = .returned (.int .i64 1) ∧ Below w.heap.size w w' :=
  (bestP_any ⟨#[]⟩ ⟨#[7, 7, 7]⟩ 1 w (by decide) (by decide) (by decide)).mono fun e w' ⟨h1, h2⟩ => ⟨h1.trans (by kernel_rfl), h2⟩
theorem plv_r (w : World) : Calls Try.prog 10 #[.agg #[.int .i64 2, .int .i64 1, .int .i64 3]] w fun e w' => e = .returned (.int .i64 3) ∧ Below w.heap.size w w' :=
  (rowP_any 2 1 3 w (i64_small 2 (by decide)) (i64_small 1 (by decide)) (i64_small 3 (by decide))).mono fun e w' ⟨h1, h2⟩ => ⟨h1.trans (by kernel_rfl), h2⟩
theorem plv_c (w : World) : Calls Try.prog 11 #[.agg #[.int .i64 0, .int .i64 0, .int .i64 0]] w fun e w' => e = .returned (.int .i64 1) ∧ Below w.heap.size w w' :=
  (checkP_any 0 0 0 w (i64_small 0 (by decide)) (i64_small 0 (by decide)) (i64_small 0 (by decide))).mono fun e w' ⟨h1, h2⟩ => ⟨h1.trans (by kernel_rfl), h2⟩

set_option maxRecDepth 100000 in
set_option maxHeartbeats 16000000 in
theorem prdLives_any (w : World) : Calls Try.prog 4 #[] w fun e w' => e = .returned (.bool true) ∧ Below w.heap.size w w' := by
  obtain ⟨N, hN⟩ : ∃ N, w.heap.size = N := ⟨_, rfl⟩
  go_enter Try.func4, Try.ntmps4
  go_wp2_with fail
  obtain ⟨V, hV⟩ : ∃ V, (w.alloc (.cells #[.int .i64 2, .int .i64 1, .int .i64 3] 23)).alloc (.cells #[.int .i64 12, .int .i64 1, .int .i64 2] 23) = V := ⟨_, rfl⟩
  have hVs : V.heap.size = N + 2 := by rw [← hV, World.size_alloc, World.size_alloc, hN]
  have bP : Blk V N 23 #[.int .i64 2, .int .i64 1, .int .i64 3] := by
    rw [← hV, ← hN]
    exact (Blk.new w _ _).alloc _
  have bQ : Blk V (N + 1) 23 #[.int .i64 12, .int .i64 1, .int .i64 2] := by
    rw [← hV]
    have := Blk.new (w.alloc (.cells #[.int .i64 2, .int .i64 1, .int .i64 3] 23)) 23 #[.int .i64 12, .int .i64 1, .int .i64 2]
    rw [World.size_alloc, hN] at this
    exact this
  have HP := Lib.hid (fun (W : World) (hb : Below (N + 2) V W) => bP.below hb (by omega))
  have HQ := Lib.hid (fun (W : World) (hb : Below (N + 2) V W) => bQ.below hb (by omega))
  have HVN := Lib.hid (show Below N w V by rw [← hV, ← hN]; exact ((Below.refl _ w).alloc (Nat.le_refl _) _).alloc (by simp) _)
  have HB0 := Lib.hid (show Below (N + 2) V V by rw [← hVs]; exact Below.refl _ V)
  have HS0 := Lib.hid (show N + 2 ≤ V.heap.size by omega)
  have HNN := Lib.hid hN
  rw [hV]
  clear bP bQ hV hVs hN
  refine (plv_0 _).mono ?_
  rintro e w1 ⟨rfl, hb⟩
  have HB1 := Lib.hid (HB0.out.trans (hb.mono HS0.out))
  have HS1 := Lib.hid (Nat.le_trans HS0.out hb.size)
  clear hb
  have p0 := (HP.out w1 HB1.out).cell 0
  have p1 := (HP.out w1 HB1.out).cell 1
  have p2 := (HP.out w1 HB1.out).cell 2
  have q0 := (HQ.out w1 HB1.out).cell 0
  have q1 := (HQ.out w1 HB1.out).cell 1
  have q2 := (HQ.out w1 HB1.out).cell 2
  simp only [List.getElem?_toArray, List.getElem?_cons_zero, List.getElem?_cons_succ] at p0 p1 p2 q0 q1 q2
  go_wp2_with fail
  refine (plv_1 _).mono ?_
  rintro e w2 ⟨rfl, hb⟩
  have HB2 := Lib.hid (HB1.out.trans (hb.mono HS1.out))
  have HS2 := Lib.hid (Nat.le_trans HS1.out hb.size)
  clear hb
  clear p0 p1 p2 q0 q1 q2
  have p0 := (HP.out w2 HB2.out).cell 0
  have p1 := (HP.out w2 HB2.out).cell 1
  have p2 := (HP.out w2 HB2.out).cell 2
  have q0 := (HQ.out w2 HB2.out).cell 0
  have q1 := (HQ.out w2 HB2.out).cell 1
  have q2 := (HQ.out w2 HB2.out).cell 2
  simp only [List.getElem?_toArray, List.getElem?_cons_zero, List.getElem?_cons_succ] at p0 p1 p2 q0 q1 q2
  go_wp2_with fail
  refine (plv_2 _).mono ?_
  rintro e w3 ⟨rfl, hb⟩
  have HB3 := Lib.hid (HB2.out.trans (hb.mono HS2.out))
  have HS3 := Lib.hid (Nat.le_trans HS2.out hb.size)
  clear hb
  clear p0 p1 p2 q0 q1 q2
  have p0 := (HP.out w3 HB3.out).cell 0
  have p1 := (HP.out w3 HB3.out).cell 1
  have p2 := (HP.out w3 HB3.out).cell 2
  have q0 := (HQ.out w3 HB3.out).cell 0
  have q1 := (HQ.out w3 HB3.out).cell 1
  have q2 := (HQ.out w3 HB3.out).cell 2
  simp only [List.getElem?_toArray, List.getElem?_cons_zero, List.getElem?_cons_succ] at p0 p1 p2 q0 q1 q2
  go_wp2_with fail
  refine (plv_3 _).mono ?_
  rintro e w4 ⟨rfl, hb⟩
  have HB4 := Lib.hid (HB3.out.trans (hb.mono HS3.out))
  have HS4 := Lib.hid (Nat.le_trans HS3.out hb.size)
  clear hb
  clear p0 p1 p2 q0 q1 q2
  have p0 := (HP.out w4 HB4.out).cell 0
  have p1 := (HP.out w4 HB4.out).cell 1
  have p2 := (HP.out w4 HB4.out).cell 2
  have q0 := (HQ.out w4 HB4.out).cell 0
  have q1 := (HQ.out w4 HB4.out).cell 1
  have q2 := (HQ.out w4 HB4.out).cell 2
  simp only [List.getElem?_toArray, List.getElem?_cons_zero, List.getElem?_cons_succ] at p0 p1 p2 q0 q1 q2
  go_wp2_with fail
  refine (plv_4 _).mono ?_
  rintro e w5 ⟨rfl, hb⟩
  have HB5 := Lib.hid (HB4.out.trans (hb.mono HS4.out))
  have HS5 := Lib.hid (Nat.le_trans HS4.out hb.size)
  clear hb
  clear p0 p1 p2 q0 q1 q2
  have p0 := (HP.out w5 HB5.out).cell 0
  have p1 := (HP.out w5 HB5.out).cell 1
  have p2 := (HP.out w5 HB5.out).cell 2
  have q0 := (HQ.out w5 HB5.out).cell 0
  have q1 := (HQ.out w5 HB5.out).cell 1
  have q2 := (HQ.out w5 HB5.out).cell 2
  simp only [List.getElem?_toArray, List.getElem?_cons_zero, List.getElem?_cons_succ] at p0 p1 p2 q0 q1 q2
  go_wp2_with fail
  refine (plv_p _).mono ?_
  rintro e wz ⟨rfl, rfl⟩
  go_wp2_with fail
  refine (plv_q _).mono ?_
  rintro e wz ⟨rfl, rfl⟩
  go_wp2_with fail
  refine (plv_b _).mono ?_
  rintro e w6 ⟨rfl, hb⟩
  have HB6 := Lib.hid (HB5.out.trans (hb.mono HS5.out))
  have HS6 := Lib.hid (Nat.le_trans HS5.out hb.size)
  clear hb
  clear p0 p1 p2 q0 q1 q2
  have p0 := (HP.out w6 HB6.out).cell 0
  have p1 := (HP.out w6 HB6.out).cell 1
  have p2 := (HP.out w6 HB6.out).cell 2
  have q0 := (HQ.out w6 HB6.out).cell 0
  have q1 := (HQ.out w6 HB6.out).cell 1
  have q2 := (HQ.out w6 HB6.out).cell 2
  simp only [List.getElem?_toArray, List.getElem?_cons_zero, List.getElem?_cons_succ] at p0 p1 p2 q0 q1 q2
  go_wp2_with fail
  refine (plv_r _).mono ?_
  rintro e w7 ⟨rfl, hb⟩
  have HB7 := Lib.hid (HB6.out.trans (hb.mono HS6.out))
  have HS7 := Lib.hid (Nat.le_trans HS6.out hb.size)
  clear hb
  clear p0 p1 p2 q0 q1 q2
  have p0 := (HP.out w7 HB7.out).cell 0
  have p1 := (HP.out w7 HB7.out).cell 1
  have p2 := (HP.out w7 HB7.out).cell 2
  have q0 := (HQ.out w7 HB7.out).cell 0
  have q1 := (HQ.out w7 HB7.out).cell 1
  have q2 := (HQ.out w7 HB7.out).cell 2
  simp only [List.getElem?_toArray, List.getElem?_cons_zero, List.getElem?_cons_succ] at p0 p1 p2 q0 q1 q2
  go_wp2_with fail
  refine (plv_c _).mono ?_
  rintro e w8 ⟨rfl, hb⟩
  have HB8 := Lib.hid (HB7.out.trans (hb.mono HS7.out))
  have HS8 := Lib.hid (Nat.le_trans HS7.out hb.size)
  clear hb
  clear p0 p1 p2 q0 q1 q2
  have p0 := (HP.out w8 HB8.out).cell 0
  have p1 := (HP.out w8 HB8.out).cell 1
  have p2 := (HP.out w8 HB8.out).cell 2
  have q0 := (HQ.out w8 HB8.out).cell 0
  have q1 := (HQ.out w8 HB8.out).cell 1
  have q2 := (HQ.out w8 HB8.out).cell 2
  simp only [List.getElem?_toArray, List.getElem?_cons_zero, List.getElem?_cons_succ] at p0 p1 p2 q0 q1 q2
  go_wp2_with fail
  go_ret
  rw [HNN.out]
  exact ⟨rfl, HVN.out.trans (HB8.out.mono (by omega))⟩
end Go.Proofs.Yticliemmplefoaa
