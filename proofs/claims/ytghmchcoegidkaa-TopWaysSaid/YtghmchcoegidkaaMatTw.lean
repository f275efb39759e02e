/-
  TopWays: for small whole matrices composition is associative, and agrees with applying the matrices one after another; what is written as an object is read back.
-/
import Derived.Test.YtghmchcoegidkaaMatK
namespace Go.Proofs.Ytghmchcoegidkaa
open Go.RowKit Fix Mat

/-- What the calls of TopWays answer. -/
structure WaysFacts (a b c : Mx) (x y : Int) (p1 p2 p3 : Mx) (x1 y1 x2 y2 x3 y3 : Int) : Prop where
  m1 : mulQ a b = p1 ∧ mulX a b = 0
  m2 : mulQ b c = p2 ∧ mulX b c = 0
  m3 : mulQ p1 c = p3 ∧ mulX p1 c = 0
  m4 : mulQ a p2 = p3 ∧ mulX a p2 = 0
  q1 : appP a x y = (x1, y1) ∧ appX a x y = 0
  q2 : appP b x1 y1 = (x2, y2) ∧ appX b x1 y1 = 0
  q3 : appP c x2 y2 = (x3, y3) ∧ appX c x2 y2 = 0
  q4 : appP p3 x y = (x3, y3) ∧ appX p3 x y = 0
  ok : okM p3 = true
theorem mul_of {a b : Mx} (h : mulO a b = true) : mulQ a b = mulM a b ∧ mulX a b = 0 := by unfold mulQ mulX; rw [if_pos h, if_pos h]; exact ⟨rfl, rfl⟩
theorem app_of {m : Mx} {x y : Int} (h : appO m x y = true) : appP m x y = (appA m x y, appB m x y) ∧ appX m x y = 0 := by unfold appP appX; rw [if_pos h, if_pos h]; exact ⟨rfl, rfl⟩
theorem ways_facts {a b c : Mx} {x y : Int} (ha : w7 a = true) (hb : w7 b = true) (hc : w7 c = true) (hx : Le x 100000) (hy : Le y 100000) : ∃ p1 p2 p3 x1 y1 x2 y2 x3 y3, WaysFacts a b c x y p1 p2 p3 x1 y1 x2 y2 x3 y3 := by
  obtain ⟨A, rfl, sA⟩ := w7_whole ha
  obtain ⟨B, rfl, sB⟩ := w7_whole hb
  obtain ⟨C, rfl, sC⟩ := w7_whole hc
  have oA := sA.ok (by decide) (by decide)
  have oB := sB.ok (by decide) (by decide)
  have oC := sC.ok (by decide) (by decide)
  have s1 := sA.mul sB (by decide) (by decide) (by decide)
  have s2 := sB.mul sC (by decide) (by decide) (by decide)
  have s3 := s1.mul sC (by decide) (by decide) (by decide)
  have o1 := s1.ok (by decide) (by decide)
  have o2 := s2.ok (by decide) (by decide)
  have o3 := s3.ok (by decide) (by decide)
  have e4 : wMul A (wMul B C) = wMul (wMul A B) C := (wMul_assoc A B C).symm
  have t1 := sA.app hx hy (by decide) (by decide)
  have t2 := sB.app t1.1 t1.2 (by decide) (by decide)
  have t3 := sC.app t2.1 t2.2 (by decide) (by decide)
  have a1 := appO_w oA (hx.ok (by decide)) (hy.ok (by decide)) (t1.1.ok (by decide)) (t1.2.ok (by decide))
  have a2 := appO_w oB (t1.1.ok (by decide)) (t1.2.ok (by decide)) (t2.1.ok (by decide)) (t2.2.ok (by decide))
  have a3 := appO_w oC (t2.1.ok (by decide)) (t2.2.ok (by decide)) (t3.1.ok (by decide)) (t3.2.ok (by decide))
  have t4 := s3.app hx hy (by decide) (by decide)
  have a4 := appO_w o3 (hx.ok (by decide)) (hy.ok (by decide)) (t4.1.ok (by decide)) (t4.2.ok (by decide))
  refine ⟨wM (wMul A B), wM (wMul B C), wM (wMul (wMul A B) C), (x * A.a + y * A.c + A.e), (x * A.b + y * A.d + A.f), ((x * A.a + y * A.c + A.e) * B.a + (x * A.b + y * A.d + A.f) * B.c + B.e), ((x * A.a + y * A.c + A.e) * B.b + (x * A.b + y * A.d + A.f) * B.d + B.f), (((x * A.a + y * A.c + A.e) * B.a + (x * A.b + y * A.d + A.f) * B.c + B.e) * C.a + ((x * A.a + y * A.c + A.e) * B.b + (x * A.b + y * A.d + A.f) * B.d + B.f) * C.c + C.e), (((x * A.a + y * A.c + A.e) * B.a + (x * A.b + y * A.d + A.f) * B.c + B.e) * C.b + ((x * A.a + y * A.c + A.e) * B.b + (x * A.b + y * A.d + A.f) * B.d + B.f) * C.d + C.f), ?_, ?_, ?_, ?_, ?_, ?_, ?_, ?_, o3⟩
  · have h := mul_of (mulO_w oA oB o1)
    rw [mul_w] at h
    exact h
  · have h := mul_of (mulO_w oB oC o2)
    rw [mul_w] at h
    exact h
  · have h := mul_of (mulO_w o1 oC o3)
    rw [mul_w] at h
    exact h
  · have h := mul_of (mulO_w oA o2 (by rw [e4]; exact o3))
    rw [mul_w, e4] at h
    exact h
  · have h := app_of a1
    rw [(app_w A x y).1, (app_w A x y).2] at h
    exact h
  · have h := app_of a2
    rw [(app_w B _ _).1, (app_w B _ _).2] at h
    exact h
  · have h := app_of a3
    rw [(app_w C _ _).1, (app_w C _ _).2] at h
    exact h
  · have h := app_of a4
    rw [(app_w _ x y).1, (app_w _ x y).2, (app_mul (wMul A B) C x y).1, (app_mul (wMul A B) C x y).2, (app_mul A B x y).1, (app_mul A B x y).2] at h
    exact h

set_option maxRecDepth 100000 in
set_option maxHeartbeats 16000000 in
theorem ways_any (a b c : Mx) (x y : Int) (w : World) :
    Calls Try.prog 8 #[mxV a, mxV b, mxV c, ptV x y] w fun e w' => e = .returned (.bool true) ∧ Below w.heap.size w w' := by
  unfold mxV ptV
  obtain ⟨N, hN⟩ : ∃ N, w.heap.size = N := ⟨_, rfl⟩
  obtain ⟨B, hB⟩ : ∃ B, N + 1 = B := ⟨_, rfl⟩
  obtain ⟨C, hC⟩ : ∃ C, B + 1 = C := ⟨_, rfl⟩
  obtain ⟨P, hP⟩ : ∃ P, C + 1 = P := ⟨_, rfl⟩
  obtain ⟨V, hV⟩ : ∃ V, (((w.alloc (.cells #[.int .i64 a.a, .int .i64 a.b, .int .i64 a.c, .int .i64 a.d, .int .i64 a.e, .int .i64 a.f] 23)).alloc (.cells #[.int .i64 b.a, .int .i64 b.b, .int .i64 b.c, .int .i64 b.d, .int .i64 b.e, .int .i64 b.f] 23)).alloc (.cells #[.int .i64 c.a, .int .i64 c.b, .int .i64 c.c, .int .i64 c.d, .int .i64 c.e, .int .i64 c.f] 23)).alloc (.cells #[.int .i64 x, .int .i64 y] 25) = V := ⟨_, rfl⟩
  have hVs : V.heap.size = P + 1 := by rw [← hV]; simp [hN]; omega
  have La := Lib.hid (show Blk V N 23 #[.int .i64 a.a, .int .i64 a.b, .int .i64 a.c, .int .i64 a.d, .int .i64 a.e, .int .i64 a.f] by rw [← hV, ← hN]; exact (((Blk.new w _ _).alloc _).alloc _).alloc _)
  have Lb := Lib.hid (show Blk V B 23 #[.int .i64 b.a, .int .i64 b.b, .int .i64 b.c, .int .i64 b.d, .int .i64 b.e, .int .i64 b.f] by
    rw [← hV]
    have := ((Blk.new (w.alloc (.cells #[.int .i64 a.a, .int .i64 a.b, .int .i64 a.c, .int .i64 a.d, .int .i64 a.e, .int .i64 a.f] 23)) 23 #[.int .i64 b.a, .int .i64 b.b, .int .i64 b.c, .int .i64 b.d, .int .i64 b.e, .int .i64 b.f]).alloc (.cells #[.int .i64 c.a, .int .i64 c.b, .int .i64 c.c, .int .i64 c.d, .int .i64 c.e, .int .i64 c.f] 23)).alloc (.cells #[.int .i64 x, .int .i64 y] 25)
    rw [World.size_alloc, hN, hB] at this
    exact this)
  have Lc := Lib.hid (show Blk V C 23 #[.int .i64 c.a, .int .i64 c.b, .int .i64 c.c, .int .i64 c.d, .int .i64 c.e, .int .i64 c.f] by
    rw [← hV]
    have := (Blk.new ((w.alloc (.cells #[.int .i64 a.a, .int .i64 a.b, .int .i64 a.c, .int .i64 a.d, .int .i64 a.e, .int .i64 a.f] 23)).alloc (.cells #[.int .i64 b.a, .int .i64 b.b, .int .i64 b.c, .int .i64 b.d, .int .i64 b.e, .int .i64 b.f] 23)) 23 #[.int .i64 c.a, .int .i64 c.b, .int .i64 c.c, .int .i64 c.d, .int .i64 c.e, .int .i64 c.f]).alloc (.cells #[.int .i64 x, .int .i64 y] 25)
    rw [World.size_alloc, World.size_alloc, hN, hB, hC] at this
    exact this)
  have Lp := Lib.hid (show Blk V P 25 #[.int .i64 x, .int .i64 y] by
    rw [← hV]
    have := Blk.new (((w.alloc (.cells #[.int .i64 a.a, .int .i64 a.b, .int .i64 a.c, .int .i64 a.d, .int .i64 a.e, .int .i64 a.f] 23)).alloc (.cells #[.int .i64 b.a, .int .i64 b.b, .int .i64 b.c, .int .i64 b.d, .int .i64 b.e, .int .i64 b.f] 23)).alloc (.cells #[.int .i64 c.a, .int .i64 c.b, .int .i64 c.c, .int .i64 c.d, .int .i64 c.e, .int .i64 c.f] 23)) 25 #[.int .i64 x, .int .i64 y]
    rw [World.size_alloc, World.size_alloc, World.size_alloc, hN, hB, hC, hP] at this
    exact this)
  have HB := Lib.hid (show Below N w V by rw [← hV, ← hN]; exact ((((Below.refl _ w).alloc (Nat.le_refl _) _).alloc (by simp) _).alloc (by simp; omega) _).alloc (by simp; omega) _)
  have HS := Lib.hid (show N ≤ V.heap.size by omega)
  have M1 : Hid (∀ W : World, Calls Try.prog 25 #[.int .i64 5, .int .i64 6] W fun e w' => e = .returned (.agg #[.int .i64 10000, .int .i64 0, .int .i64 0, .int .i64 10000, .int .i64 5, .int .i64 6]) ∧ Below W.heap.size W w') := Lib.hid (fun W => move_any 5 6 W)
  have M2 : Hid (∀ W : World, Calls Try.prog 27 #[.int .i64 20000, .int .i64 30000] W fun e w' => e = .returned (.agg #[.int .i64 20000, .int .i64 0, .int .i64 0, .int .i64 30000, .int .i64 0, .int .i64 0]) ∧ Below W.heap.size W w') := Lib.hid (fun W => scale_any 20000 30000 W)
  have M3 : Hid (∀ W : World, Calls Try.prog 11 #[.agg #[.int .i64 10000, .int .i64 0, .int .i64 0, .int .i64 10000, .int .i64 5, .int .i64 6], .agg #[.int .i64 20000, .int .i64 0, .int .i64 0, .int .i64 30000, .int .i64 0, .int .i64 0]] W fun e w' => e = .returned (.tuple #[.agg #[.int .i64 20000, .int .i64 0, .int .i64 0, .int .i64 30000, .int .i64 10, .int .i64 18], .int .i64 0]) ∧ Below W.heap.size W w') :=
    Lib.hid (fun W => mul_mx ⟨10000, 0, 0, 10000, 5, 6⟩ ⟨20000, 0, 0, 30000, 0, 0⟩ ⟨20000, 0, 0, 30000, 10, 18⟩ 0 W (by kernel_rfl) (by kernel_rfl))
  have W1 := Lib.hid (fun W : World => whole7_any a W)
  have W2 := Lib.hid (fun W : World => whole7_any b W)
  have W3 := Lib.hid (fun W : World => whole7_any c W)
  unfold mxV at W1 W2 W3
  rw [hN]
  go_enter Try.func8, Try.ntmps8
  go_upto_region 1 with fail
  clear hV hN hB hC hP hVs
  go_wp2_with fail
  refine (M1.out V).mono ?_
  rintro e U1 ⟨rfl, hb⟩
  have La := Lib.hid (La.out.below hb La.out.lt)
  have Lb := Lib.hid (Lb.out.below hb Lb.out.lt)
  have Lc := Lib.hid (Lc.out.below hb Lc.out.lt)
  have Lp := Lib.hid (Lp.out.below hb Lp.out.lt)
  have HB := Lib.hid (HB.out.trans (hb.mono HS.out))
  have HS := Lib.hid (Nat.le_trans HS.out hb.size)
  clear hb
  go_wp2_with fail
  refine (M2.out U1).mono ?_
  rintro e U2 ⟨rfl, hb⟩
  have La := Lib.hid (La.out.below hb La.out.lt)
  have Lb := Lib.hid (Lb.out.below hb Lb.out.lt)
  have Lc := Lib.hid (Lc.out.below hb Lc.out.lt)
  have Lp := Lib.hid (Lp.out.below hb Lp.out.lt)
  have HB := Lib.hid (HB.out.trans (hb.mono HS.out))
  have HS := Lib.hid (Nat.le_trans HS.out hb.size)
  clear hb
  go_wp2_with fail
  refine (M3.out U2).mono ?_
  rintro e U3 ⟨rfl, hb⟩
  have La := Lib.hid (La.out.below hb La.out.lt)
  have Lb := Lib.hid (Lb.out.below hb Lb.out.lt)
  have Lc := Lib.hid (Lc.out.below hb Lc.out.lt)
  have Lp := Lib.hid (Lp.out.below hb Lp.out.lt)
  have HB := Lib.hid (HB.out.trans (hb.mono HS.out))
  have HS := Lib.hid (Nat.le_trans HS.out hb.size)
  clear hb
  obtain ⟨Gs, hG⟩ : ∃ G, U3.heap.size = G := ⟨_, rfl⟩
  go_upto_region 2 with fail
  obtain ⟨U4, hU⟩ : ∃ X, U3.alloc (.cells #[.int .i64 20000, .int .i64 0, .int .i64 0, .int .i64 30000, .int .i64 10, .int .i64 18] 23) = X := ⟨_, rfl⟩
  have La := Lib.hid (La.out.alloc (.cells #[.int .i64 20000, .int .i64 0, .int .i64 0, .int .i64 30000, .int .i64 10, .int .i64 18] 23))
  rw [hU] at La
  have Lb := Lib.hid (Lb.out.alloc (.cells #[.int .i64 20000, .int .i64 0, .int .i64 0, .int .i64 30000, .int .i64 10, .int .i64 18] 23))
  rw [hU] at Lb
  have Lc := Lib.hid (Lc.out.alloc (.cells #[.int .i64 20000, .int .i64 0, .int .i64 0, .int .i64 30000, .int .i64 10, .int .i64 18] 23))
  rw [hU] at Lc
  have Lp := Lib.hid (Lp.out.alloc (.cells #[.int .i64 20000, .int .i64 0, .int .i64 0, .int .i64 30000, .int .i64 10, .int .i64 18] 23))
  rw [hU] at Lp
  have Ls : Hid (Blk U4 Gs 23 #[.int .i64 20000, .int .i64 0, .int .i64 0, .int .i64 30000, .int .i64 10, .int .i64 18]) := Lib.hid (by rw [← hU, ← hG]; exact Blk.new U3 _ _)
  have HB := Lib.hid (HB.out.alloc HS.out (.cells #[.int .i64 20000, .int .i64 0, .int .i64 0, .int .i64 30000, .int .i64 10, .int .i64 18] 23))
  rw [hU] at HB
  have HS : Hid (N ≤ U4.heap.size) := Lib.hid (Nat.le_trans HS.out (by rw [← hU, World.size_alloc]; exact Nat.le_succ _))
  rw [hU]
  clear hU hG
  obtain ⟨sc0, sc1, sc2, sc3, sc4, sc5⟩ := (six_cells Ls.out).1
  go_upto_region 4 with fail
  clear sc0 sc1 sc2 sc3 sc4 sc5
  clear Ls
  obtain ⟨ac0, ac1, ac2, ac3, ac4, ac5⟩ := (six_cells La.out).1
  go_wp2_with fail
  refine (W1.out U4).mono ?_
  rintro e U5 ⟨rfl, hb⟩
  have La := Lib.hid (La.out.below hb La.out.lt)
  have Lb := Lib.hid (Lb.out.below hb Lb.out.lt)
  have Lc := Lib.hid (Lc.out.below hb Lc.out.lt)
  have Lp := Lib.hid (Lp.out.below hb Lp.out.lt)
  have HB := Lib.hid (HB.out.trans (hb.mono HS.out))
  have HS := Lib.hid (Nat.le_trans HS.out hb.size)
  clear hb
  clear ac0 ac1 ac2 ac3 ac4 ac5
  by_cases qa : w7 a = true
  rotate_left
  · rw [Bool.eq_false_iff.2 qa]
    clear qa
    go_wp2_with fail
    go_ret
    exact ⟨rfl, HB.out⟩
  have Qa := Lib.hid qa
  rw [qa]
  clear qa
  obtain ⟨bc0, bc1, bc2, bc3, bc4, bc5⟩ := (six_cells Lb.out).1
  go_wp2_with fail
  refine (W2.out U5).mono ?_
  rintro e U6 ⟨rfl, hb⟩
  have La := Lib.hid (La.out.below hb La.out.lt)
  have Lb := Lib.hid (Lb.out.below hb Lb.out.lt)
  have Lc := Lib.hid (Lc.out.below hb Lc.out.lt)
  have Lp := Lib.hid (Lp.out.below hb Lp.out.lt)
  have HB := Lib.hid (HB.out.trans (hb.mono HS.out))
  have HS := Lib.hid (Nat.le_trans HS.out hb.size)
  clear hb
  clear bc0 bc1 bc2 bc3 bc4 bc5
  by_cases qb : w7 b = true
  rotate_left
  · rw [Bool.eq_false_iff.2 qb]
    clear qb
    go_wp2_with fail
    go_ret
    exact ⟨rfl, HB.out⟩
  have Qb := Lib.hid qb
  rw [qb]
  clear qb
  obtain ⟨cc0, cc1, cc2, cc3, cc4, cc5⟩ := (six_cells Lc.out).1
  go_wp2_with fail
  refine (W3.out U6).mono ?_
  rintro e U7 ⟨rfl, hb⟩
  have La := Lib.hid (La.out.below hb La.out.lt)
  have Lb := Lib.hid (Lb.out.below hb Lb.out.lt)
  have Lc := Lib.hid (Lc.out.below hb Lc.out.lt)
  have Lp := Lib.hid (Lp.out.below hb Lp.out.lt)
  have HB := Lib.hid (HB.out.trans (hb.mono HS.out))
  have HS := Lib.hid (Nat.le_trans HS.out hb.size)
  clear hb
  clear cc0 cc1 cc2 cc3 cc4 cc5
  by_cases qc : w7 c = true
  rotate_left
  · rw [Bool.eq_false_iff.2 qc]
    clear qc
    go_wp2_with fail
    go_ret
    exact ⟨rfl, HB.out⟩
  have Qc := Lib.hid qc
  rw [qc]
  clear qc
  obtain ⟨pc0, pc1⟩ := two_cells Lp.out
  by_cases d1 : x < -100000
  · go_wp2_with fail
    go_ret
    exact ⟨rfl, HB.out⟩
  by_cases d2 : 100000 < x
  · go_wp2_with fail
    go_ret
    exact ⟨rfl, HB.out⟩
  by_cases d3 : y < -100000
  · go_wp2_with fail
    go_ret
    exact ⟨rfl, HB.out⟩
  by_cases d4 : 100000 < y
  · go_wp2_with fail
    go_ret
    exact ⟨rfl, HB.out⟩
  have HF := ways_facts Qa.out Qb.out Qc.out (show Le x 100000 from ⟨by omega, by omega⟩) (show Le y 100000 from ⟨by omega, by omega⟩)
  obtain ⟨p1, p2, p3, x1, y1, x2, y2, x3, y3, HF⟩ := HF
  have K1 : Hid (∀ W : World, Calls Try.prog 11 #[.agg #[.int .i64 a.a, .int .i64 a.b, .int .i64 a.c, .int .i64 a.d, .int .i64 a.e, .int .i64 a.f], .agg #[.int .i64 b.a, .int .i64 b.b, .int .i64 b.c, .int .i64 b.d, .int .i64 b.e, .int .i64 b.f]] W fun e w' => e = .returned (.tuple #[.agg #[.int .i64 p1.a, .int .i64 p1.b, .int .i64 p1.c, .int .i64 p1.d, .int .i64 p1.e, .int .i64 p1.f], .int .i64 0]) ∧ Below W.heap.size W w') := Lib.hid (fun W => mul_mx a b p1 0 W HF.m1.1 HF.m1.2)
  have K2 : Hid (∀ W : World, Calls Try.prog 11 #[.agg #[.int .i64 b.a, .int .i64 b.b, .int .i64 b.c, .int .i64 b.d, .int .i64 b.e, .int .i64 b.f], .agg #[.int .i64 c.a, .int .i64 c.b, .int .i64 c.c, .int .i64 c.d, .int .i64 c.e, .int .i64 c.f]] W fun e w' => e = .returned (.tuple #[.agg #[.int .i64 p2.a, .int .i64 p2.b, .int .i64 p2.c, .int .i64 p2.d, .int .i64 p2.e, .int .i64 p2.f], .int .i64 0]) ∧ Below W.heap.size W w') := Lib.hid (fun W => mul_mx b c p2 0 W HF.m2.1 HF.m2.2)
  have K3 : Hid (∀ W : World, Calls Try.prog 11 #[.agg #[.int .i64 p1.a, .int .i64 p1.b, .int .i64 p1.c, .int .i64 p1.d, .int .i64 p1.e, .int .i64 p1.f], .agg #[.int .i64 c.a, .int .i64 c.b, .int .i64 c.c, .int .i64 c.d, .int .i64 c.e, .int .i64 c.f]] W fun e w' => e = .returned (.tuple #[.agg #[.int .i64 p3.a, .int .i64 p3.b, .int .i64 p3.c, .int .i64 p3.d, .int .i64 p3.e, .int .i64 p3.f], .int .i64 0]) ∧ Below W.heap.size W w') := Lib.hid (fun W => mul_mx p1 c p3 0 W HF.m3.1 HF.m3.2)
  have K4 : Hid (∀ W : World, Calls Try.prog 11 #[.agg #[.int .i64 a.a, .int .i64 a.b, .int .i64 a.c, .int .i64 a.d, .int .i64 a.e, .int .i64 a.f], .agg #[.int .i64 p2.a, .int .i64 p2.b, .int .i64 p2.c, .int .i64 p2.d, .int .i64 p2.e, .int .i64 p2.f]] W fun e w' => e = .returned (.tuple #[.agg #[.int .i64 p3.a, .int .i64 p3.b, .int .i64 p3.c, .int .i64 p3.d, .int .i64 p3.e, .int .i64 p3.f], .int .i64 0]) ∧ Below W.heap.size W w') := Lib.hid (fun W => mul_mx a p2 p3 0 W HF.m4.1 HF.m4.2)
  have K5 : Hid (∀ W : World, Calls Try.prog 13 #[.agg #[.int .i64 a.a, .int .i64 a.b, .int .i64 a.c, .int .i64 a.d, .int .i64 a.e, .int .i64 a.f], .agg #[.int .i64 x, .int .i64 y]] W fun e w' => e = .returned (.tuple #[.agg #[.int .i64 x1, .int .i64 y1], .int .i64 0]) ∧ Below W.heap.size W w') := Lib.hid (fun W => apply_pt a x y x1 y1 0 W HF.q1.1 HF.q1.2)
  have K6 : Hid (∀ W : World, Calls Try.prog 13 #[.agg #[.int .i64 b.a, .int .i64 b.b, .int .i64 b.c, .int .i64 b.d, .int .i64 b.e, .int .i64 b.f], .agg #[.int .i64 x1, .int .i64 y1]] W fun e w' => e = .returned (.tuple #[.agg #[.int .i64 x2, .int .i64 y2], .int .i64 0]) ∧ Below W.heap.size W w') := Lib.hid (fun W => apply_pt b x1 y1 x2 y2 0 W HF.q2.1 HF.q2.2)
  have K7 : Hid (∀ W : World, Calls Try.prog 13 #[.agg #[.int .i64 c.a, .int .i64 c.b, .int .i64 c.c, .int .i64 c.d, .int .i64 c.e, .int .i64 c.f], .agg #[.int .i64 x2, .int .i64 y2]] W fun e w' => e = .returned (.tuple #[.agg #[.int .i64 x3, .int .i64 y3], .int .i64 0]) ∧ Below W.heap.size W w') := Lib.hid (fun W => apply_pt c x2 y2 x3 y3 0 W HF.q3.1 HF.q3.2)
  have K8 : Hid (∀ W : World, Calls Try.prog 13 #[.agg #[.int .i64 p3.a, .int .i64 p3.b, .int .i64 p3.c, .int .i64 p3.d, .int .i64 p3.e, .int .i64 p3.f], .agg #[.int .i64 x, .int .i64 y]] W fun e w' => e = .returned (.tuple #[.agg #[.int .i64 x3, .int .i64 y3], .int .i64 0]) ∧ Below W.heap.size W w') := Lib.hid (fun W => apply_pt p3 x y x3 y3 0 W HF.q4.1 HF.q4.2)
  have K9 := Lib.hid (fun W : World => object_any p3 W HF.ok)
  unfold mxV at K9
  have HRd := Lib.hid (read_obj HF.ok)
  clear HF
  go_upto_region 6 with fail
  clear pc0 pc1
  clear d1 d2 d3 d4
  obtain ⟨ac0, ac1, ac2, ac3, ac4, ac5⟩ := (six_cells La.out).1
  obtain ⟨bc0, bc1, bc2, bc3, bc4, bc5⟩ := (six_cells Lb.out).1
  go_wp2_with fail
  refine (K1.out U7).mono ?_
  rintro e U8 ⟨rfl, hb⟩
  have La := Lib.hid (La.out.below hb La.out.lt)
  have Lb := Lib.hid (Lb.out.below hb Lb.out.lt)
  have Lc := Lib.hid (Lc.out.below hb Lc.out.lt)
  have Lp := Lib.hid (Lp.out.below hb Lp.out.lt)
  have HB := Lib.hid (HB.out.trans (hb.mono HS.out))
  have HS := Lib.hid (Nat.le_trans HS.out hb.size)
  clear hb
  clear ac0 ac1 ac2 ac3 ac4 ac5 bc0 bc1 bc2 bc3 bc4 bc5
  obtain ⟨Gab, hG⟩ : ∃ G, U8.heap.size = G := ⟨_, rfl⟩
  go_upto_region 7 with fail
  obtain ⟨U9, hU⟩ : ∃ X, U8.alloc (.cells #[.int .i64 p1.a, .int .i64 p1.b, .int .i64 p1.c, .int .i64 p1.d, .int .i64 p1.e, .int .i64 p1.f] 23) = X := ⟨_, rfl⟩
  have La := Lib.hid (La.out.alloc (.cells #[.int .i64 p1.a, .int .i64 p1.b, .int .i64 p1.c, .int .i64 p1.d, .int .i64 p1.e, .int .i64 p1.f] 23))
  rw [hU] at La
  have Lb := Lib.hid (Lb.out.alloc (.cells #[.int .i64 p1.a, .int .i64 p1.b, .int .i64 p1.c, .int .i64 p1.d, .int .i64 p1.e, .int .i64 p1.f] 23))
  rw [hU] at Lb
  have Lc := Lib.hid (Lc.out.alloc (.cells #[.int .i64 p1.a, .int .i64 p1.b, .int .i64 p1.c, .int .i64 p1.d, .int .i64 p1.e, .int .i64 p1.f] 23))
  rw [hU] at Lc
  have Lp := Lib.hid (Lp.out.alloc (.cells #[.int .i64 p1.a, .int .i64 p1.b, .int .i64 p1.c, .int .i64 p1.d, .int .i64 p1.e, .int .i64 p1.f] 23))
  rw [hU] at Lp
  have Lab : Hid (Blk U9 Gab 23 #[.int .i64 p1.a, .int .i64 p1.b, .int .i64 p1.c, .int .i64 p1.d, .int .i64 p1.e, .int .i64 p1.f]) := Lib.hid (by rw [← hU, ← hG]; exact Blk.new U8 _ _)
  have HB := Lib.hid (HB.out.alloc HS.out (.cells #[.int .i64 p1.a, .int .i64 p1.b, .int .i64 p1.c, .int .i64 p1.d, .int .i64 p1.e, .int .i64 p1.f] 23))
  rw [hU] at HB
  have HS : Hid (N ≤ U9.heap.size) := Lib.hid (Nat.le_trans HS.out (by rw [← hU, World.size_alloc]; exact Nat.le_succ _))
  rw [hU]
  clear hU hG
  obtain ⟨bc0, bc1, bc2, bc3, bc4, bc5⟩ := (six_cells Lb.out).1
  obtain ⟨cc0, cc1, cc2, cc3, cc4, cc5⟩ := (six_cells Lc.out).1
  go_wp2_with fail
  refine (K2.out U9).mono ?_
  rintro e U10 ⟨rfl, hb⟩
  have La := Lib.hid (La.out.below hb La.out.lt)
  have Lb := Lib.hid (Lb.out.below hb Lb.out.lt)
  have Lc := Lib.hid (Lc.out.below hb Lc.out.lt)
  have Lp := Lib.hid (Lp.out.below hb Lp.out.lt)
  have Lab := Lib.hid (Lab.out.below hb Lab.out.lt)
  have HB := Lib.hid (HB.out.trans (hb.mono HS.out))
  have HS := Lib.hid (Nat.le_trans HS.out hb.size)
  clear hb
  clear bc0 bc1 bc2 bc3 bc4 bc5 cc0 cc1 cc2 cc3 cc4 cc5
  obtain ⟨Gbc, hG⟩ : ∃ G, U10.heap.size = G := ⟨_, rfl⟩
  go_upto_region 8 with fail
  obtain ⟨U11, hU⟩ : ∃ X, U10.alloc (.cells #[.int .i64 p2.a, .int .i64 p2.b, .int .i64 p2.c, .int .i64 p2.d, .int .i64 p2.e, .int .i64 p2.f] 23) = X := ⟨_, rfl⟩
  have La := Lib.hid (La.out.alloc (.cells #[.int .i64 p2.a, .int .i64 p2.b, .int .i64 p2.c, .int .i64 p2.d, .int .i64 p2.e, .int .i64 p2.f] 23))
  rw [hU] at La
  have Lb := Lib.hid (Lb.out.alloc (.cells #[.int .i64 p2.a, .int .i64 p2.b, .int .i64 p2.c, .int .i64 p2.d, .int .i64 p2.e, .int .i64 p2.f] 23))
  rw [hU] at Lb
  have Lc := Lib.hid (Lc.out.alloc (.cells #[.int .i64 p2.a, .int .i64 p2.b, .int .i64 p2.c, .int .i64 p2.d, .int .i64 p2.e, .int .i64 p2.f] 23))
  rw [hU] at Lc
  have Lp := Lib.hid (Lp.out.alloc (.cells #[.int .i64 p2.a, .int .i64 p2.b, .int .i64 p2.c, .int .i64 p2.d, .int .i64 p2.e, .int .i64 p2.f] 23))
  rw [hU] at Lp
  have Lab := Lib.hid (Lab.out.alloc (.cells #[.int .i64 p2.a, .int .i64 p2.b, .int .i64 p2.c, .int .i64 p2.d, .int .i64 p2.e, .int .i64 p2.f] 23))
  rw [hU] at Lab
  have Lbc : Hid (Blk U11 Gbc 23 #[.int .i64 p2.a, .int .i64 p2.b, .int .i64 p2.c, .int .i64 p2.d, .int .i64 p2.e, .int .i64 p2.f]) := Lib.hid (by rw [← hU, ← hG]; exact Blk.new U10 _ _)
  have HB := Lib.hid (HB.out.alloc HS.out (.cells #[.int .i64 p2.a, .int .i64 p2.b, .int .i64 p2.c, .int .i64 p2.d, .int .i64 p2.e, .int .i64 p2.f] 23))
  rw [hU] at HB
  have HS : Hid (N ≤ U11.heap.size) := Lib.hid (Nat.le_trans HS.out (by rw [← hU, World.size_alloc]; exact Nat.le_succ _))
  rw [hU]
  clear hU hG
  obtain ⟨abc0, abc1, abc2, abc3, abc4, abc5⟩ := (six_cells Lab.out).1
  obtain ⟨cc0, cc1, cc2, cc3, cc4, cc5⟩ := (six_cells Lc.out).1
  go_wp2_with fail
  refine (K3.out U11).mono ?_
  rintro e U12 ⟨rfl, hb⟩
  have La := Lib.hid (La.out.below hb La.out.lt)
  have Lb := Lib.hid (Lb.out.below hb Lb.out.lt)
  have Lc := Lib.hid (Lc.out.below hb Lc.out.lt)
  have Lp := Lib.hid (Lp.out.below hb Lp.out.lt)
  have Lab := Lib.hid (Lab.out.below hb Lab.out.lt)
  have Lbc := Lib.hid (Lbc.out.below hb Lbc.out.lt)
  have HB := Lib.hid (HB.out.trans (hb.mono HS.out))
  have HS := Lib.hid (Nat.le_trans HS.out hb.size)
  clear hb
  clear abc0 abc1 abc2 abc3 abc4 abc5 cc0 cc1 cc2 cc3 cc4 cc5
  clear Lab
  obtain ⟨Gle, hG⟩ : ∃ G, U12.heap.size = G := ⟨_, rfl⟩
  go_upto_region 9 with fail
  obtain ⟨U13, hU⟩ : ∃ X, U12.alloc (.cells #[.int .i64 p3.a, .int .i64 p3.b, .int .i64 p3.c, .int .i64 p3.d, .int .i64 p3.e, .int .i64 p3.f] 23) = X := ⟨_, rfl⟩
  have La := Lib.hid (La.out.alloc (.cells #[.int .i64 p3.a, .int .i64 p3.b, .int .i64 p3.c, .int .i64 p3.d, .int .i64 p3.e, .int .i64 p3.f] 23))
  rw [hU] at La
  have Lb := Lib.hid (Lb.out.alloc (.cells #[.int .i64 p3.a, .int .i64 p3.b, .int .i64 p3.c, .int .i64 p3.d, .int .i64 p3.e, .int .i64 p3.f] 23))
  rw [hU] at Lb
  have Lc := Lib.hid (Lc.out.alloc (.cells #[.int .i64 p3.a, .int .i64 p3.b, .int .i64 p3.c, .int .i64 p3.d, .int .i64 p3.e, .int .i64 p3.f] 23))
  rw [hU] at Lc
  have Lp := Lib.hid (Lp.out.alloc (.cells #[.int .i64 p3.a, .int .i64 p3.b, .int .i64 p3.c, .int .i64 p3.d, .int .i64 p3.e, .int .i64 p3.f] 23))
  rw [hU] at Lp
  have Lbc := Lib.hid (Lbc.out.alloc (.cells #[.int .i64 p3.a, .int .i64 p3.b, .int .i64 p3.c, .int .i64 p3.d, .int .i64 p3.e, .int .i64 p3.f] 23))
  rw [hU] at Lbc
  have Lle : Hid (Blk U13 Gle 23 #[.int .i64 p3.a, .int .i64 p3.b, .int .i64 p3.c, .int .i64 p3.d, .int .i64 p3.e, .int .i64 p3.f]) := Lib.hid (by rw [← hU, ← hG]; exact Blk.new U12 _ _)
  have HB := Lib.hid (HB.out.alloc HS.out (.cells #[.int .i64 p3.a, .int .i64 p3.b, .int .i64 p3.c, .int .i64 p3.d, .int .i64 p3.e, .int .i64 p3.f] 23))
  rw [hU] at HB
  have HS : Hid (N ≤ U13.heap.size) := Lib.hid (Nat.le_trans HS.out (by rw [← hU, World.size_alloc]; exact Nat.le_succ _))
  rw [hU]
  clear hU hG
  obtain ⟨ac0, ac1, ac2, ac3, ac4, ac5⟩ := (six_cells La.out).1
  obtain ⟨bcc0, bcc1, bcc2, bcc3, bcc4, bcc5⟩ := (six_cells Lbc.out).1
  go_wp2_with fail
  refine (K4.out U13).mono ?_
  rintro e U14 ⟨rfl, hb⟩
  have La := Lib.hid (La.out.below hb La.out.lt)
  have Lb := Lib.hid (Lb.out.below hb Lb.out.lt)
  have Lc := Lib.hid (Lc.out.below hb Lc.out.lt)
  have Lp := Lib.hid (Lp.out.below hb Lp.out.lt)
  have Lbc := Lib.hid (Lbc.out.below hb Lbc.out.lt)
  have Lle := Lib.hid (Lle.out.below hb Lle.out.lt)
  have HB := Lib.hid (HB.out.trans (hb.mono HS.out))
  have HS := Lib.hid (Nat.le_trans HS.out hb.size)
  clear hb
  clear ac0 ac1 ac2 ac3 ac4 ac5 bcc0 bcc1 bcc2 bcc3 bcc4 bcc5
  clear Lbc
  obtain ⟨Gri, hG⟩ : ∃ G, U14.heap.size = G := ⟨_, rfl⟩
  go_upto_region 10 with fail
  obtain ⟨U15, hU⟩ : ∃ X, U14.alloc (.cells #[.int .i64 p3.a, .int .i64 p3.b, .int .i64 p3.c, .int .i64 p3.d, .int .i64 p3.e, .int .i64 p3.f] 23) = X := ⟨_, rfl⟩
  have La := Lib.hid (La.out.alloc (.cells #[.int .i64 p3.a, .int .i64 p3.b, .int .i64 p3.c, .int .i64 p3.d, .int .i64 p3.e, .int .i64 p3.f] 23))
  rw [hU] at La
  have Lb := Lib.hid (Lb.out.alloc (.cells #[.int .i64 p3.a, .int .i64 p3.b, .int .i64 p3.c, .int .i64 p3.d, .int .i64 p3.e, .int .i64 p3.f] 23))
  rw [hU] at Lb
  have Lc := Lib.hid (Lc.out.alloc (.cells #[.int .i64 p3.a, .int .i64 p3.b, .int .i64 p3.c, .int .i64 p3.d, .int .i64 p3.e, .int .i64 p3.f] 23))
  rw [hU] at Lc
  have Lp := Lib.hid (Lp.out.alloc (.cells #[.int .i64 p3.a, .int .i64 p3.b, .int .i64 p3.c, .int .i64 p3.d, .int .i64 p3.e, .int .i64 p3.f] 23))
  rw [hU] at Lp
  have Lle := Lib.hid (Lle.out.alloc (.cells #[.int .i64 p3.a, .int .i64 p3.b, .int .i64 p3.c, .int .i64 p3.d, .int .i64 p3.e, .int .i64 p3.f] 23))
  rw [hU] at Lle
  have Lri : Hid (Blk U15 Gri 23 #[.int .i64 p3.a, .int .i64 p3.b, .int .i64 p3.c, .int .i64 p3.d, .int .i64 p3.e, .int .i64 p3.f]) := Lib.hid (by rw [← hU, ← hG]; exact Blk.new U14 _ _)
  have HB := Lib.hid (HB.out.alloc HS.out (.cells #[.int .i64 p3.a, .int .i64 p3.b, .int .i64 p3.c, .int .i64 p3.d, .int .i64 p3.e, .int .i64 p3.f] 23))
  rw [hU] at HB
  have HS : Hid (N ≤ U15.heap.size) := Lib.hid (Nat.le_trans HS.out (by rw [← hU, World.size_alloc]; exact Nat.le_succ _))
  rw [hU]
  clear hU hG
  obtain ⟨ac0, ac1, ac2, ac3, ac4, ac5⟩ := (six_cells La.out).1
  obtain ⟨pc0, pc1⟩ := two_cells Lp.out
  go_wp2_with fail
  refine (K5.out U15).mono ?_
  rintro e U16 ⟨rfl, hb⟩
  have La := Lib.hid (La.out.below hb La.out.lt)
  have Lb := Lib.hid (Lb.out.below hb Lb.out.lt)
  have Lc := Lib.hid (Lc.out.below hb Lc.out.lt)
  have Lp := Lib.hid (Lp.out.below hb Lp.out.lt)
  have Lle := Lib.hid (Lle.out.below hb Lle.out.lt)
  have Lri := Lib.hid (Lri.out.below hb Lri.out.lt)
  have HB := Lib.hid (HB.out.trans (hb.mono HS.out))
  have HS := Lib.hid (Nat.le_trans HS.out hb.size)
  clear hb
  clear ac0 ac1 ac2 ac3 ac4 ac5 pc0 pc1
  clear La
  obtain ⟨Gqa, hG⟩ : ∃ G, U16.heap.size = G := ⟨_, rfl⟩
  go_upto_region 11 with fail
  obtain ⟨U17, hU⟩ : ∃ X, U16.alloc (.cells #[.int .i64 x1, .int .i64 y1] 25) = X := ⟨_, rfl⟩
  have Lb := Lib.hid (Lb.out.alloc (.cells #[.int .i64 x1, .int .i64 y1] 25))
  rw [hU] at Lb
  have Lc := Lib.hid (Lc.out.alloc (.cells #[.int .i64 x1, .int .i64 y1] 25))
  rw [hU] at Lc
  have Lp := Lib.hid (Lp.out.alloc (.cells #[.int .i64 x1, .int .i64 y1] 25))
  rw [hU] at Lp
  have Lle := Lib.hid (Lle.out.alloc (.cells #[.int .i64 x1, .int .i64 y1] 25))
  rw [hU] at Lle
  have Lri := Lib.hid (Lri.out.alloc (.cells #[.int .i64 x1, .int .i64 y1] 25))
  rw [hU] at Lri
  have Lqa : Hid (Blk U17 Gqa 25 #[.int .i64 x1, .int .i64 y1]) := Lib.hid (by rw [← hU, ← hG]; exact Blk.new U16 _ _)
  have HB := Lib.hid (HB.out.alloc HS.out (.cells #[.int .i64 x1, .int .i64 y1] 25))
  rw [hU] at HB
  have HS : Hid (N ≤ U17.heap.size) := Lib.hid (Nat.le_trans HS.out (by rw [← hU, World.size_alloc]; exact Nat.le_succ _))
  rw [hU]
  clear hU hG
  obtain ⟨bc0, bc1, bc2, bc3, bc4, bc5⟩ := (six_cells Lb.out).1
  obtain ⟨qac0, qac1⟩ := two_cells Lqa.out
  go_wp2_with fail
  refine (K6.out U17).mono ?_
  rintro e U18 ⟨rfl, hb⟩
  have Lb := Lib.hid (Lb.out.below hb Lb.out.lt)
  have Lc := Lib.hid (Lc.out.below hb Lc.out.lt)
  have Lp := Lib.hid (Lp.out.below hb Lp.out.lt)
  have Lle := Lib.hid (Lle.out.below hb Lle.out.lt)
  have Lri := Lib.hid (Lri.out.below hb Lri.out.lt)
  have Lqa := Lib.hid (Lqa.out.below hb Lqa.out.lt)
  have HB := Lib.hid (HB.out.trans (hb.mono HS.out))
  have HS := Lib.hid (Nat.le_trans HS.out hb.size)
  clear hb
  clear bc0 bc1 bc2 bc3 bc4 bc5 qac0 qac1
  clear Lb
  clear Lqa
  obtain ⟨Gqb, hG⟩ : ∃ G, U18.heap.size = G := ⟨_, rfl⟩
  go_upto_region 12 with fail
  obtain ⟨U19, hU⟩ : ∃ X, U18.alloc (.cells #[.int .i64 x2, .int .i64 y2] 25) = X := ⟨_, rfl⟩
  have Lc := Lib.hid (Lc.out.alloc (.cells #[.int .i64 x2, .int .i64 y2] 25))
  rw [hU] at Lc
  have Lp := Lib.hid (Lp.out.alloc (.cells #[.int .i64 x2, .int .i64 y2] 25))
  rw [hU] at Lp
  have Lle := Lib.hid (Lle.out.alloc (.cells #[.int .i64 x2, .int .i64 y2] 25))
  rw [hU] at Lle
  have Lri := Lib.hid (Lri.out.alloc (.cells #[.int .i64 x2, .int .i64 y2] 25))
  rw [hU] at Lri
  have Lqb : Hid (Blk U19 Gqb 25 #[.int .i64 x2, .int .i64 y2]) := Lib.hid (by rw [← hU, ← hG]; exact Blk.new U18 _ _)
  have HB := Lib.hid (HB.out.alloc HS.out (.cells #[.int .i64 x2, .int .i64 y2] 25))
  rw [hU] at HB
  have HS : Hid (N ≤ U19.heap.size) := Lib.hid (Nat.le_trans HS.out (by rw [← hU, World.size_alloc]; exact Nat.le_succ _))
  rw [hU]
  clear hU hG
  obtain ⟨cc0, cc1, cc2, cc3, cc4, cc5⟩ := (six_cells Lc.out).1
  obtain ⟨qbc0, qbc1⟩ := two_cells Lqb.out
  go_wp2_with fail
  refine (K7.out U19).mono ?_
  rintro e U20 ⟨rfl, hb⟩
  have Lc := Lib.hid (Lc.out.below hb Lc.out.lt)
  have Lp := Lib.hid (Lp.out.below hb Lp.out.lt)
  have Lle := Lib.hid (Lle.out.below hb Lle.out.lt)
  have Lri := Lib.hid (Lri.out.below hb Lri.out.lt)
  have Lqb := Lib.hid (Lqb.out.below hb Lqb.out.lt)
  have HB := Lib.hid (HB.out.trans (hb.mono HS.out))
  have HS := Lib.hid (Nat.le_trans HS.out hb.size)
  clear hb
  clear cc0 cc1 cc2 cc3 cc4 cc5 qbc0 qbc1
  clear Lqb
  clear Lc
  obtain ⟨Gqc, hG⟩ : ∃ G, U20.heap.size = G := ⟨_, rfl⟩
  go_upto_region 13 with fail
  obtain ⟨U21, hU⟩ : ∃ X, U20.alloc (.cells #[.int .i64 x3, .int .i64 y3] 25) = X := ⟨_, rfl⟩
  have Lp := Lib.hid (Lp.out.alloc (.cells #[.int .i64 x3, .int .i64 y3] 25))
  rw [hU] at Lp
  have Lle := Lib.hid (Lle.out.alloc (.cells #[.int .i64 x3, .int .i64 y3] 25))
  rw [hU] at Lle
  have Lri := Lib.hid (Lri.out.alloc (.cells #[.int .i64 x3, .int .i64 y3] 25))
  rw [hU] at Lri
  have Lqc : Hid (Blk U21 Gqc 25 #[.int .i64 x3, .int .i64 y3]) := Lib.hid (by rw [← hU, ← hG]; exact Blk.new U20 _ _)
  have HB := Lib.hid (HB.out.alloc HS.out (.cells #[.int .i64 x3, .int .i64 y3] 25))
  rw [hU] at HB
  have HS : Hid (N ≤ U21.heap.size) := Lib.hid (Nat.le_trans HS.out (by rw [← hU, World.size_alloc]; exact Nat.le_succ _))
  rw [hU]
  clear hU hG
  obtain ⟨lec0, lec1, lec2, lec3, lec4, lec5⟩ := (six_cells Lle.out).1
  obtain ⟨pc0, pc1⟩ := two_cells Lp.out
  go_wp2_with fail
  refine (K8.out U21).mono ?_
  rintro e U22 ⟨rfl, hb⟩
  have Lp := Lib.hid (Lp.out.below hb Lp.out.lt)
  have Lle := Lib.hid (Lle.out.below hb Lle.out.lt)
  have Lri := Lib.hid (Lri.out.below hb Lri.out.lt)
  have Lqc := Lib.hid (Lqc.out.below hb Lqc.out.lt)
  have HB := Lib.hid (HB.out.trans (hb.mono HS.out))
  have HS := Lib.hid (Nat.le_trans HS.out hb.size)
  clear hb
  clear lec0 lec1 lec2 lec3 lec4 lec5 pc0 pc1
  clear Lp
  obtain ⟨Gat, hG⟩ : ∃ G, U22.heap.size = G := ⟨_, rfl⟩
  go_upto_region 16 with fail
  obtain ⟨U23, hU⟩ : ∃ X, U22.alloc (.cells #[.int .i64 x3, .int .i64 y3] 25) = X := ⟨_, rfl⟩
  have Lle := Lib.hid (Lle.out.alloc (.cells #[.int .i64 x3, .int .i64 y3] 25))
  rw [hU] at Lle
  have Lri := Lib.hid (Lri.out.alloc (.cells #[.int .i64 x3, .int .i64 y3] 25))
  rw [hU] at Lri
  have Lqc := Lib.hid (Lqc.out.alloc (.cells #[.int .i64 x3, .int .i64 y3] 25))
  rw [hU] at Lqc
  have Lat : Hid (Blk U23 Gat 25 #[.int .i64 x3, .int .i64 y3]) := Lib.hid (by rw [← hU, ← hG]; exact Blk.new U22 _ _)
  have HB := Lib.hid (HB.out.alloc HS.out (.cells #[.int .i64 x3, .int .i64 y3] 25))
  rw [hU] at HB
  have HS : Hid (N ≤ U23.heap.size) := Lib.hid (Nat.le_trans HS.out (by rw [← hU, World.size_alloc]; exact Nat.le_succ _))
  rw [hU]
  clear hU hG
  obtain ⟨lec0, lec1, lec2, lec3, lec4, lec5⟩ := (six_cells Lle.out).1
  go_wp2_with fail
  refine (K9.out U23).mono ?_
  rintro e U24 ⟨g, c', rfl, hrow, _, hb⟩
  have Lle := Lib.hid (Lle.out.below hb Lle.out.lt)
  have Lri := Lib.hid (Lri.out.below hb Lri.out.lt)
  have Lqc := Lib.hid (Lqc.out.below hb Lqc.out.lt)
  have Lat := Lib.hid (Lat.out.below hb Lat.out.lt)
  have HB := Lib.hid (HB.out.trans (hb.mono HS.out))
  have HS := Lib.hid (Nat.le_trans HS.out hb.size)
  clear hb
  clear lec0 lec1 lec2 lec3 lec4 lec5
  have HR := Lib.hid (read_six 0 0 ⟨#[]⟩ (.slice none 0 0) (some ⟨g, 0, none⟩) c' (objL p3 6) U24 (objL_len p3 6) (NumRow.of_row hrow))
  rw [HRd.out.1, HRd.out.2] at HR
  unfold mxR mxV at HR
  clear hrow
  go_wp2_with fail
  refine (HR.out).mono ?_
  rintro e U25 ⟨rfl, hb⟩
  have Lle := Lib.hid (Lle.out.below hb Lle.out.lt)
  have Lri := Lib.hid (Lri.out.below hb Lri.out.lt)
  have Lqc := Lib.hid (Lqc.out.below hb Lqc.out.lt)
  have Lat := Lib.hid (Lat.out.below hb Lat.out.lt)
  have HB := Lib.hid (HB.out.trans (hb.mono HS.out))
  have HS := Lib.hid (Nat.le_trans HS.out hb.size)
  clear hb
  obtain ⟨Go, hG⟩ : ∃ G, U25.heap.size = G := ⟨_, rfl⟩
  go_upto_region 17 with fail
  obtain ⟨U26, hU⟩ : ∃ X, U25.alloc (.cells #[.int .i64 p3.a, .int .i64 p3.b, .int .i64 p3.c, .int .i64 p3.d, .int .i64 p3.e, .int .i64 p3.f] 23) = X := ⟨_, rfl⟩
  have Lle := Lib.hid (Lle.out.alloc (.cells #[.int .i64 p3.a, .int .i64 p3.b, .int .i64 p3.c, .int .i64 p3.d, .int .i64 p3.e, .int .i64 p3.f] 23))
  rw [hU] at Lle
  have Lri := Lib.hid (Lri.out.alloc (.cells #[.int .i64 p3.a, .int .i64 p3.b, .int .i64 p3.c, .int .i64 p3.d, .int .i64 p3.e, .int .i64 p3.f] 23))
  rw [hU] at Lri
  have Lqc := Lib.hid (Lqc.out.alloc (.cells #[.int .i64 p3.a, .int .i64 p3.b, .int .i64 p3.c, .int .i64 p3.d, .int .i64 p3.e, .int .i64 p3.f] 23))
  rw [hU] at Lqc
  have Lat := Lib.hid (Lat.out.alloc (.cells #[.int .i64 p3.a, .int .i64 p3.b, .int .i64 p3.c, .int .i64 p3.d, .int .i64 p3.e, .int .i64 p3.f] 23))
  rw [hU] at Lat
  have Lo : Hid (Blk U26 Go 23 #[.int .i64 p3.a, .int .i64 p3.b, .int .i64 p3.c, .int .i64 p3.d, .int .i64 p3.e, .int .i64 p3.f]) := Lib.hid (by rw [← hU, ← hG]; exact Blk.new U25 _ _)
  have HB := Lib.hid (HB.out.alloc HS.out (.cells #[.int .i64 p3.a, .int .i64 p3.b, .int .i64 p3.c, .int .i64 p3.d, .int .i64 p3.e, .int .i64 p3.f] 23))
  rw [hU] at HB
  have HS : Hid (N ≤ U26.heap.size) := Lib.hid (Nat.le_trans HS.out (by rw [← hU, World.size_alloc]; exact Nat.le_succ _))
  rw [hU]
  clear hU hG
  obtain ⟨lec0, lec1, lec2, lec3, lec4, lec5⟩ := (six_cells Lle.out).1
  obtain ⟨ric0, ric1, ric2, ric3, ric4, ric5⟩ := (six_cells Lri.out).1
  obtain ⟨atc0, atc1⟩ := two_cells Lat.out
  obtain ⟨qcc0, qcc1⟩ := two_cells Lqc.out
  obtain ⟨oc0, oc1, oc2, oc3, oc4, oc5⟩ := (six_cells Lo.out).1
  go_wp2_with fail
  go_ret
  exact ⟨rfl, HB.out⟩
end Go.Proofs.Ytghmchcoegidkaa
