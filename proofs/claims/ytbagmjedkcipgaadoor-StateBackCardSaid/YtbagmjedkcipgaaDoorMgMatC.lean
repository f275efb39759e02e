/-
  matrix: Mul: the product of two matrices in range, or ErrRange.
-/
import Derived.Test.YtbagmjedkcipgaaDoorMgMatB
namespace Go.Proofs.YtbagmjedkcipgaaDoor
open Go.RowKit Fix Mat

/-- How Mul's work ends. -/
def mulEnd (a b : Mx) : Ending := if mulO a b then .returned (mxV (mulM a b)) else gUp 2
theorem mulEnd_a {a b : Mx} (h : okM a = false) : mulEnd a b = gUp 2 := by unfold mulEnd mulO; rw [h]; rfl
theorem mulEnd_b {a b : Mx} (h : okM b = false) : mulEnd a b = gUp 2 := by unfold mulEnd mulO; rw [h, Bool.and_false]; rfl
theorem mulEnd_p {a b : Mx} (ha : okM a = true) (hb : okM b = true) : mulEnd a b = prodEnd (mulM a b) := by unfold mulEnd mulO prodEnd; rw [ha, hb]; rfl
theorem chk_yes {m : Mx} (h : okM m = true) : chkM m = 0 := by unfold chkM; rw [h]; rfl
theorem chk_no {m : Mx} (h : ¬ okM m = true) : chkM m = 2 := by unfold chkM; rw [if_neg h]

set_option maxRecDepth 100000 in
set_option maxHeartbeats 4000000 in
theorem mul_work (A B : Nat) (a b : Mx) (w : World) (hA : Blk w A 23 #[.int .i64 a.a, .int .i64 a.b, .int .i64 a.c, .int .i64 a.d, .int .i64 a.e, .int .i64 a.f]) (hB : Blk w B 23 #[.int .i64 b.a, .int .i64 b.b, .int .i64 b.c, .int .i64 b.d, .int .i64 b.e, .int .i64 b.f]) :
    Calls Tryd.prog 59 #[.pointer (some ⟨A, 0, none⟩), .pointer (some ⟨B, 0, none⟩)] w fun e w' => e = mulEnd a b ∧ Below w.heap.size w w' := by
  obtain ⟨N, hN⟩ : ∃ N, w.heap.size = N := ⟨_, rfl⟩
  obtain ⟨V, hV⟩ : ∃ V, w.alloc (.cells #[.int .i64 0, .int .i64 0, .int .i64 0, .int .i64 0, .int .i64 0, .int .i64 0] 23) = V := ⟨_, rfl⟩
  have hS : V.heap.size = N + 1 := by rw [← hV, World.size_alloc, hN]
  have HA1 := Lib.hid (show Blk V A 23 #[.int .i64 a.a, .int .i64 a.b, .int .i64 a.c, .int .i64 a.d, .int .i64 a.e, .int .i64 a.f] by rw [← hV]; exact hA.alloc _)
  have HB1 := Lib.hid (show Blk V B 23 #[.int .i64 b.a, .int .i64 b.b, .int .i64 b.c, .int .i64 b.d, .int .i64 b.e, .int .i64 b.f] by rw [← hV]; exact hB.alloc _)
  have HR1 := Lib.hid (show Blk V N 23 #[.int .i64 0, .int .i64 0, .int .i64 0, .int .i64 0, .int .i64 0, .int .i64 0] by rw [← hV, ← hN]; exact Blk.new w _ _)
  have HW1 := Lib.hid (show Below N w V by rw [← hV, ← hN]; exact (Below.refl _ w).alloc (Nat.le_refl _) _)
  have HS := Lib.hid hS
  rw [hN]
  go_enter Tryd.func59, Tryd.ntmps59
  go_upto_region 1 with fail
  clear hA hB hV hN hS
  obtain ⟨⟨a0, a1, a2, a3, a4, a5⟩, _⟩ := six_cells HA1.out
  go_wp2_with fail
  refine (check_any a V).mono ?_
  rintro e w2 ⟨rfl, hb⟩
  have HA2 := Lib.hid (HA1.out.below hb HA1.out.lt)
  have HB2 := Lib.hid (HB1.out.below hb HB1.out.lt)
  have HR2 := Lib.hid (HR1.out.below hb HR1.out.lt)
  have HW2 := Lib.hid (HW1.out.trans (hb.mono (by rw [HS.out]; omega)))
  have HS2 := Lib.hid (show N ≤ w2.heap.size by have := hb.size; rw [HS.out] at this; omega)
  clear hb a0 a1 a2 a3 a4 a5
  by_cases hoa : okM a = true
  · have HC := Lib.hid (chk_yes hoa)
    rw [HC.out]
    obtain ⟨⟨b0, b1, b2, b3, b4, b5⟩, _⟩ := six_cells HB2.out
    go_wp2_with fail
    refine (upOn_ok _).mono ?_
    rintro e w' ⟨rfl, rfl⟩
    go_wp2_with fail
    refine (check_any b w2).mono ?_
    rintro e w3 ⟨rfl, hb⟩
    have HA3 := Lib.hid (HA2.out.below hb HA2.out.lt)
    have HB3 := Lib.hid (HB2.out.below hb HB2.out.lt)
    have HR3 := Lib.hid (HR2.out.below hb HR2.out.lt)
    have HW3 := Lib.hid (HW2.out.trans (hb.mono HS2.out))
    have HS3 := Lib.hid (show N ≤ w3.heap.size from Nat.le_trans HS2.out hb.size)
    clear hb b0 b1 b2 b3 b4 b5
    by_cases hob : okM b = true
    · have HCb := Lib.hid (chk_yes hob)
      rw [HCb.out]
      have HE := Lib.hid (mulEnd_p hoa hob)
      obtain ⟨q, hq⟩ : ∃ q, mulM a b = q := ⟨_, rfl⟩
      have HP := Lib.hid (product_any a b q w3 hoa hob hq)
      obtain ⟨⟨a0, a1, a2, a3, a4, a5⟩, _⟩ := six_cells HA3.out
      obtain ⟨⟨b0, b1, b2, b3, b4, b5⟩, _⟩ := six_cells HB3.out
      rw [hq] at HE
      clear hoa hob hq
      go_wp2_with fail
      refine (upOn_ok _).mono ?_
      rintro e w' ⟨rfl, rfl⟩
      go_wp2_with fail
      refine HP.out.mono ?_
      rintro e w4 ⟨rfl, hb⟩
      obtain ⟨⟨c0, c1, c2, c3, c4, c5⟩, ⟨f0, f1, f2, f3, f4, f5⟩⟩ := six_cells (HR3.out.below hb HR3.out.lt)
      have HW4 := Lib.hid (HW3.out.trans (hb.mono HS3.out))
      clear hb a0 a1 a2 a3 a4 a5 b0 b1 b2 b3 b4 b5
      by_cases ho : okM q = true
      · have HQ := Lib.hid (show prodEnd q = .returned (mxV q) by unfold prodEnd; rw [if_pos ho])
        have HE2 := Lib.hid (HE.out.trans HQ.out)
        rw [HQ.out]
        unfold mxV
        clear ho
        go_wp2_with fail
        exact bodyPost_ret (v := .agg #[.int .i64 q.a, .int .i64 q.b, .int .i64 q.c, .int .i64 q.d, .int .i64 q.e, .int .i64 q.f]) (by simp [results, Tryd.results59, go_sem, c0, c1, c2, c3, c4, c5]) rfl ⟨HE2.out.symm, below_six HW4.out (Nat.le_refl _) _ _ _ _ _ _⟩
      · have HQ := Lib.hid (show prodEnd q = gUp 2 by unfold prodEnd; rw [if_neg ho])
        have HE2 := Lib.hid (HE.out.trans HQ.out)
        rw [HQ.out]
        exact ⟨rfl, HE2.out.symm, HW4.out⟩
    · have HCb := Lib.hid (chk_no hob)
      rw [HCb.out]
      have HE := Lib.hid (mulEnd_b (a := a) (Bool.eq_false_iff.2 hob))
      clear hoa hob
      go_wp2_with fail
      refine (upOn_two _).mono ?_
      rintro e w' ⟨rfl, rfl⟩
      exact ⟨rfl, HE.out.symm, HW3.out⟩
  · have HC := Lib.hid (chk_no hoa)
    rw [HC.out]
    have HE := Lib.hid (mulEnd_a (b := b) (Bool.eq_false_iff.2 hoa))
    clear hoa
    go_wp2_with fail
    refine (upOn_two _).mono ?_
    rintro e w' ⟨rfl, rfl⟩
    exact ⟨rfl, HE.out.symm, HW2.out⟩

theorem enter_mul (caps : Array Value) (W : World) : (callFunc 59 caps).run Tryd.prog W = .ok (.enter 59 caps) W := by
  first | kernel_rfl | rfl
/-- What a function of this layer answers: a matrix and an error. -/
def mxR (m : Mx) (x : Int) : Ending := .returned (.tuple #[mxV m, .int .i64 x])
set_option maxRecDepth 100000 in
set_option maxHeartbeats 4000000 in
theorem mul_mx (a b q : Mx) (x : Int) (w : World) (hq : mulQ a b = q) (hx : mulX a b = x) :
    Calls Tryd.prog 34 #[mxV a, mxV b] w fun e w' => e = mxR q x ∧ Below w.heap.size w w' := by
  unfold mxV mxR
  have hmf : ∀ (fn : Fn) (first cap : Array Value) (w : World), (Instr.makeFunc fn first cap).run Tryd.prog w = .ok (.func fn first cap) w := fun _ _ _ _ => rfl
  obtain ⟨N, hN⟩ : ∃ N, w.heap.size = N := ⟨_, rfl⟩
  obtain ⟨V, hV⟩ : ∃ V, ((w.alloc (.cells #[.int .i64 a.a, .int .i64 a.b, .int .i64 a.c, .int .i64 a.d, .int .i64 a.e, .int .i64 a.f] 23)).alloc (.cells #[.int .i64 b.a, .int .i64 b.b, .int .i64 b.c, .int .i64 b.d, .int .i64 b.e, .int .i64 b.f] 23)).alloc (.cells #[.int .i64 0, .int .i64 0, .int .i64 0, .int .i64 0, .int .i64 0, .int .i64 0] 23) = V := ⟨_, rfl⟩
  have hVs : V.heap.size = N + 3 := by rw [← hV]; simp [hN]
  have bA : Blk V N 23 #[.int .i64 a.a, .int .i64 a.b, .int .i64 a.c, .int .i64 a.d, .int .i64 a.e, .int .i64 a.f] := by
    rw [← hV, ← hN]
    exact ((Blk.new w _ _).alloc _).alloc _
  have bB : Blk V (N + 1) 23 #[.int .i64 b.a, .int .i64 b.b, .int .i64 b.c, .int .i64 b.d, .int .i64 b.e, .int .i64 b.f] := by
    rw [← hV]
    have := (Blk.new (w.alloc (.cells #[.int .i64 a.a, .int .i64 a.b, .int .i64 a.c, .int .i64 a.d, .int .i64 a.e, .int .i64 a.f] 23)) 23 #[.int .i64 b.a, .int .i64 b.b, .int .i64 b.c, .int .i64 b.d, .int .i64 b.e, .int .i64 b.f]).alloc (.cells #[.int .i64 0, .int .i64 0, .int .i64 0, .int .i64 0, .int .i64 0, .int .i64 0] 23)
    rw [World.size_alloc, hN] at this
    exact this
  have bR : Blk V (N + 2) 23 #[.int .i64 0, .int .i64 0, .int .i64 0, .int .i64 0, .int .i64 0, .int .i64 0] := by
    rw [← hV]
    have := Blk.new ((w.alloc (.cells #[.int .i64 a.a, .int .i64 a.b, .int .i64 a.c, .int .i64 a.d, .int .i64 a.e, .int .i64 a.f] 23)).alloc (.cells #[.int .i64 b.a, .int .i64 b.b, .int .i64 b.c, .int .i64 b.d, .int .i64 b.e, .int .i64 b.f] 23)) 23 #[.int .i64 0, .int .i64 0, .int .i64 0, .int .i64 0, .int .i64 0, .int .i64 0]
    rw [World.size_alloc, World.size_alloc, hN] at this
    exact this
  have HBV := Lib.hid (show Below N w V by rw [← hV, ← hN]; exact (((Below.refl _ w).alloc (Nat.le_refl _) _).alloc (by simp) _).alloc (by simp; omega) _)
  have HBR := Lib.hid bR
  have HVs := Lib.hid hVs
  have HCt : Hid (Calls Tryd.prog 58 #[.func (.func 59) #[] #[.pointer (some ⟨N, 0, none⟩), .pointer (some ⟨N + 1, 0, none⟩)]] V fun e w' => e = mxR q x ∧ Below (N + 3) V w') := Lib.hid (by
    have hwk := mul_work N (N + 1) a b ((V.alloc (.cells #[.int .i64 0, .int .i64 0, .int .i64 0, .int .i64 0, .int .i64 0, .int .i64 0] 23)).alloc (.cells #[.int .i64 0] 29)) ((bA.alloc _).alloc _) ((bB.alloc _).alloc _)
    have hus : ((V.alloc (.cells #[.int .i64 0, .int .i64 0, .int .i64 0, .int .i64 0, .int .i64 0, .int .i64 0] 23)).alloc (.cells #[.int .i64 0] 29)).heap.size = V.heap.size + 2 := by simp
    rw [hus] at hwk
    by_cases ho : mulO a b = true
    · have e1 : mulEnd a b = .returned (mxV q) := by unfold mulEnd; rw [if_pos ho, ← hq]; unfold mulQ; rw [if_pos ho]
      have e2 : x = 0 := by rw [← hx]; unfold mulX; rw [if_pos ho]
      rw [e1] at hwk
      refine (caughtM_ok 59 _ q.a q.b q.c q.d q.e q.f V (enter_mul _) hwk).mono ?_
      rintro e w' ⟨rfl, hb⟩
      rw [e2]
      exact ⟨rfl, by rw [← hVs]; exact hb⟩
    · have e1 : mulEnd a b = gUp 2 := by unfold mulEnd; rw [if_neg ho]
      have e2 : x = 2 := by rw [← hx]; unfold mulX; rw [if_neg ho]
      have e3 : q = zeroM := by rw [← hq]; unfold mulQ; rw [if_neg ho]
      rw [e1] at hwk
      refine (caughtM_no 59 _ 2 V (enter_mul _) hwk).mono ?_
      rintro e w' ⟨rfl, hb⟩
      rw [e2, e3]
      exact ⟨rfl, by rw [← hVs]; exact hb⟩)
  rw [hN]
  unfold mxR mxV at HCt
  clear bA bB bR hVs hq hx
  go_enter Tryd.func34, Tryd.ntmps34
  go_wp2_with fail
  refine HCt.out.mono ?_
  rintro e w' ⟨rfl, hb⟩
  obtain ⟨⟨c0, c1, c2, c3, c4, c5⟩, ⟨f0, f1, f2, f3, f4, f5⟩⟩ := six_cells (HBR.out.below hb (by omega))
  have HB := Lib.hid (HBV.out.trans (hb.mono (by omega)))
  clear hb hV hN
  go_wp2_with fail
  exact bodyPost_ret (v := .tuple #[.agg #[.int .i64 q.a, .int .i64 q.b, .int .i64 q.c, .int .i64 q.d, .int .i64 q.e, .int .i64 q.f], .int .i64 x]) (by simp [results, Tryd.results34, go_sem, c0, c1, c2, c3, c4, c5]) rfl ⟨rfl, below_six HB.out (by omega) _ _ _ _ _ _⟩
end Go.Proofs.YtbagmjedkcipgaaDoor
