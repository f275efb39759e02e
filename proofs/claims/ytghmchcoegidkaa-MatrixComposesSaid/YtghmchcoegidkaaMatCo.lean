/-
  MatrixComposes: the composition of small integer matrices is associative, and agrees with applying one after the other.
-/
import Derived.Test.YtghmchcoegidkaaMatLv
namespace Go.Proofs.Ytghmchcoegidkaa
open Go.RowKit Fix Mat

/-! ### whole. -/
def whB (m : Mx) : Bool := decide (-20 ≤ m.a ∧ m.a ≤ 20) && decide (-20 ≤ m.b ∧ m.b ≤ 20) && decide (-20 ≤ m.c ∧ m.c ≤ 20) && decide (-20 ≤ m.d ∧ m.d ≤ 20) && decide (-20 ≤ m.e ∧ m.e ≤ 20) && decide (-20 ≤ m.f ∧ m.f ≤ 20)
def whM (m : Mx) : Mx := ⟨10000 * m.a, 10000 * m.b, 10000 * m.c, 10000 * m.d, 10000 * m.e, 10000 * m.f⟩
def whQ (m : Mx) : Mx := if whB m then whM m else m
theorem whB_at {m : Mx} (h : ∀ k, k < 6 → -20 ≤ m.at k ∧ m.at k ≤ 20) : whB m = true := by
  unfold whB
  simp only [Bool.and_eq_true, decide_eq_true_eq]
  exact ⟨⟨⟨⟨⟨h 0 (by decide), h 1 (by decide)⟩, h 2 (by decide)⟩, h 3 (by decide)⟩, h 4 (by decide)⟩, h 5 (by decide)⟩
theorem whB_in {m : Mx} (h : whB m = true) : ∀ k, k < 6 → -20 ≤ m.at k ∧ m.at k ≤ 20 := by
  unfold whB at h
  simp only [Bool.and_eq_true, decide_eq_true_eq] at h
  obtain ⟨⟨⟨⟨⟨h0, h1⟩, h2⟩, h3⟩, h4⟩, h5⟩ := h
  intro k hk
  rcases six hk with rfl | rfl | rfl | rfl | rfl | rfl
  · exact h0
  · exact h1
  · exact h2
  · exact h3
  · exact h4
  · exact h5
theorem whB_not {m : Mx} {k : Nat} (hk : k < 6) (h : m.at k < -20 ∨ 20 < m.at k) : whB m = false :=
  Bool.eq_false_iff.2 fun hb => by have := whB_in hb k hk; omega
theorem wh_whole {m : Mx} (h : whB m = true) : ∃ A, whM m = wM A ∧ Small A 20 200000 := by
  have g := whB_in h
  have g0 := g 0 (by decide)
  have g1 := g 1 (by decide)
  have g2 := g 2 (by decide)
  have g3 := g 3 (by decide)
  have g4 := g 4 (by decide)
  have g5 := g 5 (by decide)
  refine ⟨⟨m.a, m.b, m.c, m.d, 10000 * m.e, 10000 * m.f⟩, ?_, g0, g1, g2, g3, ?_, ?_⟩
  · unfold whM wM
    simp only [Int.mul_comm]
  · show -200000 ≤ 10000 * m.e ∧ 10000 * m.e ≤ 200000
    have g4' : -20 ≤ m.e ∧ m.e ≤ 20 := g4
    omega
  · show -200000 ≤ 10000 * m.f ∧ 10000 * m.f ≤ 200000
    have g5' : -20 ≤ m.f ∧ m.f ≤ 20 := g5
    omega

set_option maxRecDepth 100000 in
set_option maxHeartbeats 4000000 in
theorem whole_any (m : Mx) (w : World) :
    Calls Try.prog 32 #[mxV m] w fun e w' => e = .returned (.tuple #[mxV (whQ m), .bool (whB m)]) ∧ Below w.heap.size w w' := by
  unfold mxV
  obtain ⟨N, hN⟩ : ∃ N, w.heap.size = N := ⟨_, rfl⟩
  obtain ⟨R, hR⟩ : ∃ R, N + 1 = R := ⟨_, rfl⟩
  obtain ⟨V, hV⟩ : ∃ V, (w.alloc (.cells #[.int .i64 m.a, .int .i64 m.b, .int .i64 m.c, .int .i64 m.d, .int .i64 m.e, .int .i64 m.f] 23)).alloc (.cells #[.int .i64 0, .int .i64 0, .int .i64 0, .int .i64 0, .int .i64 0, .int .i64 0] 23) = V := ⟨_, rfl⟩
  have hVs : V.heap.size = R + 1 := by rw [← hV]; simp [hN]; omega
  have bA : Blk V N 23 #[.int .i64 m.a, .int .i64 m.b, .int .i64 m.c, .int .i64 m.d, .int .i64 m.e, .int .i64 m.f] := by rw [← hV, ← hN]; exact (Blk.new w _ _).alloc _
  have bR : Blk V R 23 #[.int .i64 0, .int .i64 0, .int .i64 0, .int .i64 0, .int .i64 0, .int .i64 0] := by
    rw [← hV]
    have := Blk.new (w.alloc (.cells #[.int .i64 m.a, .int .i64 m.b, .int .i64 m.c, .int .i64 m.d, .int .i64 m.e, .int .i64 m.f] 23)) 23 #[.int .i64 0, .int .i64 0, .int .i64 0, .int .i64 0, .int .i64 0, .int .i64 0]
    rw [World.size_alloc, hN, hR] at this
    exact this
  have hBV : Below N w V := by rw [← hV, ← hN]; exact ((Below.refl _ w).alloc (Nat.le_refl _) _).alloc (by simp) _
  obtain ⟨U, hU⟩ : ∃ U, V.alloc (.cells #[.int .i64 m.a, .int .i64 m.b, .int .i64 m.c, .int .i64 m.d, .int .i64 m.e, .int .i64 m.f] 2) = U := ⟨_, rfl⟩
  have HA := Lib.hid (show Blk U N 23 #[.int .i64 m.a, .int .i64 m.b, .int .i64 m.c, .int .i64 m.d, .int .i64 m.e, .int .i64 m.f] by rw [← hU]; exact bA.alloc _)
  have HR := Lib.hid (show Blk U R 23 #[.int .i64 0, .int .i64 0, .int .i64 0, .int .i64 0, .int .i64 0, .int .i64 0] by rw [← hU]; exact bR.alloc _)
  have HG := Lib.hid (show Blk U (R + 1) 2 #[.int .i64 m.a, .int .i64 m.b, .int .i64 m.c, .int .i64 m.d, .int .i64 m.e, .int .i64 m.f] by rw [← hU, ← hVs]; exact Blk.new V _ _)
  have HB := Lib.hid (show Below N w U by rw [← hU]; exact hBV.alloc (by omega) _)
  have HNR := Lib.hid (show N ≤ R by omega)
  obtain ⟨⟨a0, a1, a2, a3, a4, a5⟩, _⟩ := six_cells bA
  rw [hN]
  go_enter Try.func32, Try.ntmps32
  go_upto_region 1 with fail
  clear bA bR hBV
  go_wp2_with fail
  clear a0 a1 a2 a3 a4 a5 hU hVs hV hN hR
  go_loopw [20] (fun i wr => ∃ k : Nat, k ≤ 6 ∧ i = .int .i64 (k : Int) ∧ Hid (∀ j, j < k → -20 ≤ m.at j ∧ m.at j ≤ 20) ∧ wr = U) (fun i _ => 6 - (intOf i).toNat)
  case atStart => exact ⟨0, by omega, rfl, Lib.hid (fun j h => by omega), rfl⟩
  case round =>
    obtain ⟨k, hk, rfl, hinv, rfl⟩ := hrel
    by_cases hlt : k < 6
    · have hik : (k : Int) < 6 := by omega
      have hik0 : (0 : Int) ≤ (k : Int) := by omega
      have hcell : wr.cell? ⟨R + 1, k, none⟩ = some (.int .i64 (m.at k)) := (HG.out.cell k).trans (mxC_at m hlt)
      obtain ⟨v, hv⟩ : ∃ v, m.at k = v := ⟨_, rfl⟩
      rw [hv] at hcell
      by_cases r1 : v < -20
      · have HE := Lib.hid (whB_not (m := m) hlt (by rw [hv]; exact .inl r1))
        have HQ := Lib.hid (show whQ m = m by unfold whQ; rw [HE.out]; rfl)
        obtain ⟨⟨a0, a1, a2, a3, a4, a5⟩, _⟩ := six_cells HA.out
        obtain ⟨⟨c0, c1, c2, c3, c4, c5⟩, ⟨f0, f1, f2, f3, f4, f5⟩⟩ := six_cells HR.out
        clear hv
        go_wp2_with fail
        exact bodyPost_ret (v := .tuple #[.agg #[.int .i64 m.a, .int .i64 m.b, .int .i64 m.c, .int .i64 m.d, .int .i64 m.e, .int .i64 m.f], .bool false]) (by simp [results, Try.results32, go_sem, c0, c1, c2, c3, c4, c5]) rfl ⟨by rw [HQ.out, HE.out], below_six HB.out HNR.out _ _ _ _ _ _⟩
      · by_cases r2 : 20 < v
        · have HE := Lib.hid (whB_not (m := m) hlt (by rw [hv]; exact .inr r2))
          have HQ := Lib.hid (show whQ m = m by unfold whQ; rw [HE.out]; rfl)
          obtain ⟨⟨a0, a1, a2, a3, a4, a5⟩, _⟩ := six_cells HA.out
          obtain ⟨⟨c0, c1, c2, c3, c4, c5⟩, ⟨f0, f1, f2, f3, f4, f5⟩⟩ := six_cells HR.out
          clear hv
          go_wp2_with fail
          exact bodyPost_ret (v := .tuple #[.agg #[.int .i64 m.a, .int .i64 m.b, .int .i64 m.c, .int .i64 m.d, .int .i64 m.e, .int .i64 m.f], .bool false]) (by simp [results, Try.results32, go_sem, c0, c1, c2, c3, c4, c5]) rfl ⟨by rw [HQ.out, HE.out], below_six HB.out HNR.out _ _ _ _ _ _⟩
        · have HV := Lib.hid (show -20 ≤ m.at k ∧ m.at k ≤ 20 by rw [hv]; omega)
          clear hv
          go_wp2_with fail
          go_roundw
          case rel =>
            refine ⟨k + 1, by omega, by go_num, Lib.hid (fun j hj => ?_), trivial⟩
            by_cases h : j < k
            · exact hinv.out j h
            · obtain rfl : j = k := by omega
              exact HV.out
          case measure => simp [intOf]; omega
    · obtain rfl : k = 6 := by omega
      have HE := Lib.hid (whB_at hinv.out)
      have HQ := Lib.hid (show whQ m = whM m by unfold whQ; rw [HE.out]; rfl)
      obtain ⟨⟨a0, a1, a2, a3, a4, a5⟩, _⟩ := six_cells HA.out
      obtain ⟨⟨c0, c1, c2, c3, c4, c5⟩, ⟨f0, f1, f2, f3, f4, f5⟩⟩ := six_cells HR.out
      have hin := whB_in HE.out
      have k0 : IntKind.i64.wrap (10000 * m.a) = 10000 * m.a := by
        have h : -20 ≤ m.a ∧ m.a ≤ 20 := hin 0 (by decide)
        exact IntWalk.i64_in _ (by omega)
      have k1 : IntKind.i64.wrap (10000 * m.b) = 10000 * m.b := by
        have h : -20 ≤ m.b ∧ m.b ≤ 20 := hin 1 (by decide)
        exact IntWalk.i64_in _ (by omega)
      have k2 : IntKind.i64.wrap (10000 * m.c) = 10000 * m.c := by
        have h : -20 ≤ m.c ∧ m.c ≤ 20 := hin 2 (by decide)
        exact IntWalk.i64_in _ (by omega)
      have k3 : IntKind.i64.wrap (10000 * m.d) = 10000 * m.d := by
        have h : -20 ≤ m.d ∧ m.d ≤ 20 := hin 3 (by decide)
        exact IntWalk.i64_in _ (by omega)
      have k4 : IntKind.i64.wrap (10000 * m.e) = 10000 * m.e := by
        have h : -20 ≤ m.e ∧ m.e ≤ 20 := hin 4 (by decide)
        exact IntWalk.i64_in _ (by omega)
      have k5 : IntKind.i64.wrap (10000 * m.f) = 10000 * m.f := by
        have h : -20 ≤ m.f ∧ m.f ≤ 20 := hin 5 (by decide)
        exact IntWalk.i64_in _ (by omega)
      rw [show ((6 : Nat) : Int) = 6 from rfl]
      clear hlt hk hin
      go_wp2_with fail
      exact bodyPost_ret (v := .tuple #[.agg #[.int .i64 (10000 * m.a), .int .i64 (10000 * m.b), .int .i64 (10000 * m.c), .int .i64 (10000 * m.d), .int .i64 (10000 * m.e), .int .i64 (10000 * m.f)], .bool true]) (by simp [results, Try.results32, go_sem, c0, c1, c2, c3, c4, c5]) rfl ⟨by rw [HQ.out, HE.out]; rfl, below_six HB.out HNR.out _ _ _ _ _ _⟩

/-- What the calls of MatrixComposes answer. -/
structure ComFacts (a b c : Mx) (x y : Int) (p1 p2 p3 : Mx) (x1 y1 x2 y2 : Int) : Prop where
  m1 : mulQ a b = p1 ∧ mulX a b = 0
  m2 : mulQ b c = p2 ∧ mulX b c = 0
  m3 : mulQ p1 c = p3 ∧ mulX p1 c = 0
  m4 : mulQ a p2 = p3 ∧ mulX a p2 = 0
  q1 : appP a x y = (x1, y1) ∧ appX a x y = 0
  q2 : appP b x1 y1 = (x2, y2) ∧ appX b x1 y1 = 0
  q4 : appP p1 x y = (x2, y2) ∧ appX p1 x y = 0
theorem mul_of' {a b : Mx} (h : mulO a b = true) : mulQ a b = mulM a b ∧ mulX a b = 0 := by unfold mulQ mulX; rw [if_pos h, if_pos h]; exact ⟨rfl, rfl⟩
theorem app_of' {m : Mx} {x y : Int} (h : appO m x y = true) : appP m x y = (appA m x y, appB m x y) ∧ appX m x y = 0 := by unfold appP appX; rw [if_pos h, if_pos h]; exact ⟨rfl, rfl⟩
theorem com_facts {a b c : Mx} {x y : Int} (ha : whB a = true) (hb : whB b = true) (hc : whB c = true) (hx : Le x 1000) (hy : Le y 1000) : ∃ p1 p2 p3 x1 y1 x2 y2, ComFacts (whM a) (whM b) (whM c) x y p1 p2 p3 x1 y1 x2 y2 := by
  obtain ⟨A, eA, sA⟩ := wh_whole ha
  obtain ⟨B, eB, sB⟩ := wh_whole hb
  obtain ⟨C, eC, sC⟩ := wh_whole hc
  rw [eA, eB, eC]
  have oA := sA.ok (by decide) (by decide)
  have oB := sB.ok (by decide) (by decide)
  have oC := sC.ok (by decide) (by decide)
  have s1 := sA.mul sB (by decide) (by decide) (by decide)
  have s2 := sB.mul sC (by decide) (by decide) (by decide)
  have s3 := s1.mul sC (by decide) (by decide) (by decide)
  have o1 := s1.ok (by decide) (by decide)
  have o2 := s2.ok (by decide) (by decide)
  have o3 := s3.ok (by decide) (by decide)
  have e4 : wMul A (wMul B C) = wMul (wMul A B) C := (wMul_assoc A B C).symm
  have t1 := sA.app hx hy (by decide) (by decide)
  have t2 := sB.app t1.1 t1.2 (by decide) (by decide)
  have t4 := s1.app hx hy (by decide) (by decide)
  have a1 := appO_w oA (hx.ok (by decide)) (hy.ok (by decide)) (t1.1.ok (by decide)) (t1.2.ok (by decide))
  have a2 := appO_w oB (t1.1.ok (by decide)) (t1.2.ok (by decide)) (t2.1.ok (by decide)) (t2.2.ok (by decide))
  have a4 := appO_w o1 (hx.ok (by decide)) (hy.ok (by decide)) (t4.1.ok (by decide)) (t4.2.ok (by decide))
  refine ⟨wM (wMul A B), wM (wMul B C), wM (wMul (wMul A B) C), (x * A.a + y * A.c + A.e), (x * A.b + y * A.d + A.f), ((x * A.a + y * A.c + A.e) * B.a + (x * A.b + y * A.d + A.f) * B.c + B.e), ((x * A.a + y * A.c + A.e) * B.b + (x * A.b + y * A.d + A.f) * B.d + B.f), ?_, ?_, ?_, ?_, ?_, ?_, ?_⟩
  · have h := mul_of' (mulO_w oA oB o1)
    rw [mul_w] at h
    exact h
  · have h := mul_of' (mulO_w oB oC o2)
    rw [mul_w] at h
    exact h
  · have h := mul_of' (mulO_w o1 oC o3)
    rw [mul_w] at h
    exact h
  · have h := mul_of' (mulO_w oA o2 (by rw [e4]; exact o3))
    rw [mul_w, e4] at h
    exact h
  · have h := app_of' a1
    rw [(app_w A x y).1, (app_w A x y).2] at h
    exact h
  · have h := app_of' a2
    rw [(app_w B _ _).1, (app_w B _ _).2] at h
    exact h
  · have h := app_of' a4
    rw [(app_w _ x y).1, (app_w _ x y).2, (app_mul A B x y).1, (app_mul A B x y).2] at h
    exact h

set_option maxRecDepth 100000 in
set_option maxHeartbeats 16000000 in
theorem composes_any (a b c : Mx) (x y : Int) (w : World) :
    Calls Try.prog 5 #[mxV a, mxV b, mxV c, ptV x y] w fun e w' => e = .returned (.bool true) ∧ Below w.heap.size w w' := by
  obtain ⟨A, hA0⟩ : ∃ A, whQ a = A := ⟨_, rfl⟩
  obtain ⟨E, hE0⟩ : ∃ E, whQ b = E := ⟨_, rfl⟩
  obtain ⟨D, hD0⟩ : ∃ D, whQ c = D := ⟨_, rfl⟩
  have W1 := Lib.hid (fun W : World => whole_any a W)
  have W2 := Lib.hid (fun W : World => whole_any b W)
  have W3 := Lib.hid (fun W : World => whole_any c W)
  rw [hA0] at W1
  rw [hE0] at W2
  rw [hD0] at W3
  have HQs := Lib.hid (And.intro hA0 (And.intro hE0 hD0))
  clear hA0 hE0 hD0
  unfold mxV at W1 W2 W3
  unfold mxV ptV
  obtain ⟨N, hN⟩ : ∃ N, w.heap.size = N := ⟨_, rfl⟩
  obtain ⟨B, hB⟩ : ∃ B, N + 1 = B := ⟨_, rfl⟩
  obtain ⟨C, hC⟩ : ∃ C, B + 1 = C := ⟨_, rfl⟩
  obtain ⟨P, hP⟩ : ∃ P, C + 1 = P := ⟨_, rfl⟩
  obtain ⟨V, hV⟩ : ∃ V, (((w.alloc (.cells #[.int .i64 a.a, .int .i64 a.b, .int .i64 a.c, .int .i64 a.d, .int .i64 a.e, .int .i64 a.f] 23)).alloc (.cells #[.int .i64 b.a, .int .i64 b.b, .int .i64 b.c, .int .i64 b.d, .int .i64 b.e, .int .i64 b.f] 23)).alloc (.cells #[.int .i64 c.a, .int .i64 c.b, .int .i64 c.c, .int .i64 c.d, .int .i64 c.e, .int .i64 c.f] 23)).alloc (.cells #[.int .i64 x, .int .i64 y] 25) = V := ⟨_, rfl⟩
  have hVs : V.heap.size = P + 1 := by rw [← hV]; simp [hN]; omega
  have La := Lib.hid (show Blk V N 23 #[.int .i64 a.a, .int .i64 a.b, .int .i64 a.c, .int .i64 a.d, .int .i64 a.e, .int .i64 a.f] by rw [← hV, ← hN]; exact (((Blk.new w _ _).alloc _).alloc _).alloc _)
  have Lb := Lib.hid (show Blk V B 23 #[.int .i64 b.a, .int .i64 b.b, .int .i64 b.c, .int .i64 b.d, .int .i64 b.e, .int .i64 b.f] by
    rw [← hV]
    have := ((Blk.new (w.alloc (.cells #[.int .i64 a.a, .int .i64 a.b, .int .i64 a.c, .int .i64 a.d, .int .i64 a.e, .int .i64 a.f] 23)) 23 #[.int .i64 b.a, .int .i64 b.b, .int .i64 b.c, .int .i64 b.d, .int .i64 b.e, .int .i64 b.f]).alloc (.cells #[.int .i64 c.a, .int .i64 c.b, .int .i64 c.c, .int .i64 c.d, .int .i64 c.e, .int .i64 c.f] 23)).alloc (.cells #[.int .i64 x, .int .i64 y] 25)
    rw [World.size_alloc, hN, hB] at this
    exact this)
  have Lc := Lib.hid (show Blk V C 23 #[.int .i64 c.a, .int .i64 c.b, .int .i64 c.c, .int .i64 c.d, .int .i64 c.e, .int .i64 c.f] by
    rw [← hV]
    have := (Blk.new ((w.alloc (.cells #[.int .i64 a.a, .int .i64 a.b, .int .i64 a.c, .int .i64 a.d, .int .i64 a.e, .int .i64 a.f] 23)).alloc (.cells #[.int .i64 b.a, .int .i64 b.b, .int .i64 b.c, .int .i64 b.d, .int .i64 b.e, .int .i64 b.f] 23)) 23 #[.int .i64 c.a, .int .i64 c.b, .int .i64 c.c, .int .i64 c.d, .int .i64 c.e, .int .i64 c.f]).alloc (.cells #[.int .i64 x, .int .i64 y] 25)
    rw [World.size_alloc, World.size_alloc, hN, hB, hC] at this
    exact this)
  have Lp := Lib.hid (show Blk V P 25 #[.int .i64 x, .int .i64 y] by
    rw [← hV]
    have := Blk.new (((w.alloc (.cells #[.int .i64 a.a, .int .i64 a.b, .int .i64 a.c, .int .i64 a.d, .int .i64 a.e, .int .i64 a.f] 23)).alloc (.cells #[.int .i64 b.a, .int .i64 b.b, .int .i64 b.c, .int .i64 b.d, .int .i64 b.e, .int .i64 b.f] 23)).alloc (.cells #[.int .i64 c.a, .int .i64 c.b, .int .i64 c.c, .int .i64 c.d, .int .i64 c.e, .int .i64 c.f] 23)) 25 #[.int .i64 x, .int .i64 y]
    rw [World.size_alloc, World.size_alloc, World.size_alloc, hN, hB, hC, hP] at this
    exact this)
  have HB := Lib.hid (show Below N w V by rw [← hV, ← hN]; exact ((((Below.refl _ w).alloc (Nat.le_refl _) _).alloc (by simp) _).alloc (by simp; omega) _).alloc (by simp; omega) _)
  have HS := Lib.hid (show N ≤ V.heap.size by omega)
  rw [hN]
  go_enter Try.func5, Try.ntmps5
  go_upto_region 1 with fail
  clear hV hN hB hC hP hVs
  go_wp2_with fail
  refine (matLives V).mono ?_
  rintro e U1 ⟨rfl, hb⟩
  have La := Lib.hid (La.out.below hb La.out.lt)
  have Lb := Lib.hid (Lb.out.below hb Lb.out.lt)
  have Lc := Lib.hid (Lc.out.below hb Lc.out.lt)
  have Lp := Lib.hid (Lp.out.below hb Lp.out.lt)
  have HB := Lib.hid (HB.out.trans (hb.mono HS.out))
  have HS := Lib.hid (Nat.le_trans HS.out hb.size)
  clear hb
  obtain ⟨ac0, ac1, ac2, ac3, ac4, ac5⟩ := (six_cells La.out).1
  go_wp2_with fail
  refine (W1.out U1).mono ?_
  rintro e U2 ⟨rfl, hb⟩
  have La := Lib.hid (La.out.below hb La.out.lt)
  have Lb := Lib.hid (Lb.out.below hb Lb.out.lt)
  have Lc := Lib.hid (Lc.out.below hb Lc.out.lt)
  have Lp := Lib.hid (Lp.out.below hb Lp.out.lt)
  have HB := Lib.hid (HB.out.trans (hb.mono HS.out))
  have HS := Lib.hid (Nat.le_trans HS.out hb.size)
  clear hb
  clear ac0 ac1 ac2 ac3 ac4 ac5
  clear La
  obtain ⟨Gx, hG⟩ : ∃ G, U2.heap.size = G := ⟨_, rfl⟩
  go_upto_region 4 with fail
  obtain ⟨U3, hU⟩ : ∃ X, U2.alloc (.cells #[.int .i64 A.a, .int .i64 A.b, .int .i64 A.c, .int .i64 A.d, .int .i64 A.e, .int .i64 A.f] 23) = X := ⟨_, rfl⟩
  have Lb := Lib.hid (Lb.out.alloc (.cells #[.int .i64 A.a, .int .i64 A.b, .int .i64 A.c, .int .i64 A.d, .int .i64 A.e, .int .i64 A.f] 23))
  rw [hU] at Lb
  have Lc := Lib.hid (Lc.out.alloc (.cells #[.int .i64 A.a, .int .i64 A.b, .int .i64 A.c, .int .i64 A.d, .int .i64 A.e, .int .i64 A.f] 23))
  rw [hU] at Lc
  have Lp := Lib.hid (Lp.out.alloc (.cells #[.int .i64 A.a, .int .i64 A.b, .int .i64 A.c, .int .i64 A.d, .int .i64 A.e, .int .i64 A.f] 23))
  rw [hU] at Lp
  have Lx : Hid (Blk U3 Gx 23 #[.int .i64 A.a, .int .i64 A.b, .int .i64 A.c, .int .i64 A.d, .int .i64 A.e, .int .i64 A.f]) := Lib.hid (by rw [← hU, ← hG]; exact Blk.new U2 _ _)
  have HB := Lib.hid (HB.out.alloc HS.out (.cells #[.int .i64 A.a, .int .i64 A.b, .int .i64 A.c, .int .i64 A.d, .int .i64 A.e, .int .i64 A.f] 23))
  rw [hU] at HB
  have HS : Hid (N ≤ U3.heap.size) := Lib.hid (Nat.le_trans HS.out (by rw [← hU, World.size_alloc]; exact Nat.le_succ _))
  rw [hU]
  clear hU hG
  obtain ⟨bc0, bc1, bc2, bc3, bc4, bc5⟩ := (six_cells Lb.out).1
  go_wp2_with fail
  refine (W2.out U3).mono ?_
  rintro e U4 ⟨rfl, hb⟩
  have Lb := Lib.hid (Lb.out.below hb Lb.out.lt)
  have Lc := Lib.hid (Lc.out.below hb Lc.out.lt)
  have Lp := Lib.hid (Lp.out.below hb Lp.out.lt)
  have Lx := Lib.hid (Lx.out.below hb Lx.out.lt)
  have HB := Lib.hid (HB.out.trans (hb.mono HS.out))
  have HS := Lib.hid (Nat.le_trans HS.out hb.size)
  clear hb
  clear bc0 bc1 bc2 bc3 bc4 bc5
  clear Lb
  obtain ⟨Gy, hG⟩ : ∃ G, U4.heap.size = G := ⟨_, rfl⟩
  go_upto_region 5 with fail
  obtain ⟨U5, hU⟩ : ∃ X, U4.alloc (.cells #[.int .i64 E.a, .int .i64 E.b, .int .i64 E.c, .int .i64 E.d, .int .i64 E.e, .int .i64 E.f] 23) = X := ⟨_, rfl⟩
  have Lc := Lib.hid (Lc.out.alloc (.cells #[.int .i64 E.a, .int .i64 E.b, .int .i64 E.c, .int .i64 E.d, .int .i64 E.e, .int .i64 E.f] 23))
  rw [hU] at Lc
  have Lp := Lib.hid (Lp.out.alloc (.cells #[.int .i64 E.a, .int .i64 E.b, .int .i64 E.c, .int .i64 E.d, .int .i64 E.e, .int .i64 E.f] 23))
  rw [hU] at Lp
  have Lx := Lib.hid (Lx.out.alloc (.cells #[.int .i64 E.a, .int .i64 E.b, .int .i64 E.c, .int .i64 E.d, .int .i64 E.e, .int .i64 E.f] 23))
  rw [hU] at Lx
  have Ly : Hid (Blk U5 Gy 23 #[.int .i64 E.a, .int .i64 E.b, .int .i64 E.c, .int .i64 E.d, .int .i64 E.e, .int .i64 E.f]) := Lib.hid (by rw [← hU, ← hG]; exact Blk.new U4 _ _)
  have HB := Lib.hid (HB.out.alloc HS.out (.cells #[.int .i64 E.a, .int .i64 E.b, .int .i64 E.c, .int .i64 E.d, .int .i64 E.e, .int .i64 E.f] 23))
  rw [hU] at HB
  have HS : Hid (N ≤ U5.heap.size) := Lib.hid (Nat.le_trans HS.out (by rw [← hU, World.size_alloc]; exact Nat.le_succ _))
  rw [hU]
  clear hU hG
  obtain ⟨cc0, cc1, cc2, cc3, cc4, cc5⟩ := (six_cells Lc.out).1
  go_wp2_with fail
  refine (W3.out U5).mono ?_
  rintro e U6 ⟨rfl, hb⟩
  have Lc := Lib.hid (Lc.out.below hb Lc.out.lt)
  have Lp := Lib.hid (Lp.out.below hb Lp.out.lt)
  have Lx := Lib.hid (Lx.out.below hb Lx.out.lt)
  have Ly := Lib.hid (Ly.out.below hb Ly.out.lt)
  have HB := Lib.hid (HB.out.trans (hb.mono HS.out))
  have HS := Lib.hid (Nat.le_trans HS.out hb.size)
  clear hb
  clear cc0 cc1 cc2 cc3 cc4 cc5
  clear Lc
  obtain ⟨Gz, hG⟩ : ∃ G, U6.heap.size = G := ⟨_, rfl⟩
  go_upto_region 6 with fail
  obtain ⟨U7, hU⟩ : ∃ X, U6.alloc (.cells #[.int .i64 D.a, .int .i64 D.b, .int .i64 D.c, .int .i64 D.d, .int .i64 D.e, .int .i64 D.f] 23) = X := ⟨_, rfl⟩
  have Lp := Lib.hid (Lp.out.alloc (.cells #[.int .i64 D.a, .int .i64 D.b, .int .i64 D.c, .int .i64 D.d, .int .i64 D.e, .int .i64 D.f] 23))
  rw [hU] at Lp
  have Lx := Lib.hid (Lx.out.alloc (.cells #[.int .i64 D.a, .int .i64 D.b, .int .i64 D.c, .int .i64 D.d, .int .i64 D.e, .int .i64 D.f] 23))
  rw [hU] at Lx
  have Ly := Lib.hid (Ly.out.alloc (.cells #[.int .i64 D.a, .int .i64 D.b, .int .i64 D.c, .int .i64 D.d, .int .i64 D.e, .int .i64 D.f] 23))
  rw [hU] at Ly
  have Lz : Hid (Blk U7 Gz 23 #[.int .i64 D.a, .int .i64 D.b, .int .i64 D.c, .int .i64 D.d, .int .i64 D.e, .int .i64 D.f]) := Lib.hid (by rw [← hU, ← hG]; exact Blk.new U6 _ _)
  have HB := Lib.hid (HB.out.alloc HS.out (.cells #[.int .i64 D.a, .int .i64 D.b, .int .i64 D.c, .int .i64 D.d, .int .i64 D.e, .int .i64 D.f] 23))
  rw [hU] at HB
  have HS : Hid (N ≤ U7.heap.size) := Lib.hid (Nat.le_trans HS.out (by rw [← hU, World.size_alloc]; exact Nat.le_succ _))
  rw [hU]
  clear hU hG
  by_cases qa : whB a = true
  rotate_left
  · rw [Bool.eq_false_iff.2 qa]
    clear qa
    go_wp2_with fail
    go_ret
    exact ⟨rfl, HB.out⟩
  have Qa := Lib.hid qa
  rw [qa]
  clear qa
  by_cases qb : whB b = true
  rotate_left
  · rw [Bool.eq_false_iff.2 qb]
    clear qb
    go_wp2_with fail
    go_ret
    exact ⟨rfl, HB.out⟩
  have Qb := Lib.hid qb
  rw [qb]
  clear qb
  by_cases qc : whB c = true
  rotate_left
  · rw [Bool.eq_false_iff.2 qc]
    clear qc
    go_wp2_with fail
    go_ret
    exact ⟨rfl, HB.out⟩
  have Qc := Lib.hid qc
  rw [qc]
  clear qc
  obtain ⟨pc0, pc1⟩ := two_cells Lp.out
  by_cases d1 : x < -1000
  · go_wp2_with fail
    go_ret
    exact ⟨rfl, HB.out⟩
  by_cases d2 : 1000 < x
  · go_wp2_with fail
    go_ret
    exact ⟨rfl, HB.out⟩
  by_cases d3 : y < -1000
  · go_wp2_with fail
    go_ret
    exact ⟨rfl, HB.out⟩
  by_cases d4 : 1000 < y
  · go_wp2_with fail
    go_ret
    exact ⟨rfl, HB.out⟩
  have HF := com_facts Qa.out Qb.out Qc.out (show Le x 1000 from ⟨by omega, by omega⟩) (show Le y 1000 from ⟨by omega, by omega⟩)
  have eA : whM a = A := by rw [← HQs.out.1]; unfold whQ; rw [Qa.out]; rfl
  have eE : whM b = E := by rw [← HQs.out.2.1]; unfold whQ; rw [Qb.out]; rfl
  have eD : whM c = D := by rw [← HQs.out.2.2]; unfold whQ; rw [Qc.out]; rfl
  rw [eA, eE, eD] at HF
  obtain ⟨p1, p2, p3, x1, y1, x2, y2, HF⟩ := HF
  have K1 : Hid (∀ W : World, Calls Try.prog 11 #[.agg #[.int .i64 A.a, .int .i64 A.b, .int .i64 A.c, .int .i64 A.d, .int .i64 A.e, .int .i64 A.f], .agg #[.int .i64 E.a, .int .i64 E.b, .int .i64 E.c, .int .i64 E.d, .int .i64 E.e, .int .i64 E.f]] W fun e w' => e = .returned (.tuple #[.agg #[.int .i64 p1.a, .int .i64 p1.b, .int .i64 p1.c, .int .i64 p1.d, .int .i64 p1.e, .int .i64 p1.f], .int .i64 0]) ∧ Below W.heap.size W w') := Lib.hid (fun W => mul_mx A E p1 0 W HF.m1.1 HF.m1.2)
  have K2 : Hid (∀ W : World, Calls Try.prog 11 #[.agg #[.int .i64 E.a, .int .i64 E.b, .int .i64 E.c, .int .i64 E.d, .int .i64 E.e, .int .i64 E.f], .agg #[.int .i64 D.a, .int .i64 D.b, .int .i64 D.c, .int .i64 D.d, .int .i64 D.e, .int .i64 D.f]] W fun e w' => e = .returned (.tuple #[.agg #[.int .i64 p2.a, .int .i64 p2.b, .int .i64 p2.c, .int .i64 p2.d, .int .i64 p2.e, .int .i64 p2.f], .int .i64 0]) ∧ Below W.heap.size W w') := Lib.hid (fun W => mul_mx E D p2 0 W HF.m2.1 HF.m2.2)
  have K3 : Hid (∀ W : World, Calls Try.prog 11 #[.agg #[.int .i64 p1.a, .int .i64 p1.b, .int .i64 p1.c, .int .i64 p1.d, .int .i64 p1.e, .int .i64 p1.f], .agg #[.int .i64 D.a, .int .i64 D.b, .int .i64 D.c, .int .i64 D.d, .int .i64 D.e, .int .i64 D.f]] W fun e w' => e = .returned (.tuple #[.agg #[.int .i64 p3.a, .int .i64 p3.b, .int .i64 p3.c, .int .i64 p3.d, .int .i64 p3.e, .int .i64 p3.f], .int .i64 0]) ∧ Below W.heap.size W w') := Lib.hid (fun W => mul_mx p1 D p3 0 W HF.m3.1 HF.m3.2)
  have K4 : Hid (∀ W : World, Calls Try.prog 11 #[.agg #[.int .i64 A.a, .int .i64 A.b, .int .i64 A.c, .int .i64 A.d, .int .i64 A.e, .int .i64 A.f], .agg #[.int .i64 p2.a, .int .i64 p2.b, .int .i64 p2.c, .int .i64 p2.d, .int .i64 p2.e, .int .i64 p2.f]] W fun e w' => e = .returned (.tuple #[.agg #[.int .i64 p3.a, .int .i64 p3.b, .int .i64 p3.c, .int .i64 p3.d, .int .i64 p3.e, .int .i64 p3.f], .int .i64 0]) ∧ Below W.heap.size W w') := Lib.hid (fun W => mul_mx A p2 p3 0 W HF.m4.1 HF.m4.2)
  have K5 : Hid (∀ W : World, Calls Try.prog 13 #[.agg #[.int .i64 A.a, .int .i64 A.b, .int .i64 A.c, .int .i64 A.d, .int .i64 A.e, .int .i64 A.f], .agg #[.int .i64 x, .int .i64 y]] W fun e w' => e = .returned (.tuple #[.agg #[.int .i64 x1, .int .i64 y1], .int .i64 0]) ∧ Below W.heap.size W w') := Lib.hid (fun W => apply_pt A x y x1 y1 0 W HF.q1.1 HF.q1.2)
  have K6 : Hid (∀ W : World, Calls Try.prog 13 #[.agg #[.int .i64 E.a, .int .i64 E.b, .int .i64 E.c, .int .i64 E.d, .int .i64 E.e, .int .i64 E.f], .agg #[.int .i64 x1, .int .i64 y1]] W fun e w' => e = .returned (.tuple #[.agg #[.int .i64 x2, .int .i64 y2], .int .i64 0]) ∧ Below W.heap.size W w') := Lib.hid (fun W => apply_pt E x1 y1 x2 y2 0 W HF.q2.1 HF.q2.2)
  have K8 : Hid (∀ W : World, Calls Try.prog 13 #[.agg #[.int .i64 p1.a, .int .i64 p1.b, .int .i64 p1.c, .int .i64 p1.d, .int .i64 p1.e, .int .i64 p1.f], .agg #[.int .i64 x, .int .i64 y]] W fun e w' => e = .returned (.tuple #[.agg #[.int .i64 x2, .int .i64 y2], .int .i64 0]) ∧ Below W.heap.size W w') := Lib.hid (fun W => apply_pt p1 x y x2 y2 0 W HF.q4.1 HF.q4.2)
  clear HF eA eE eD
  go_upto_region 8 with fail
  clear pc0 pc1
  clear d1 d2 d3 d4
  obtain ⟨xc0, xc1, xc2, xc3, xc4, xc5⟩ := (six_cells Lx.out).1
  obtain ⟨yc0, yc1, yc2, yc3, yc4, yc5⟩ := (six_cells Ly.out).1
  go_wp2_with fail
  refine (K1.out U7).mono ?_
  rintro e U8 ⟨rfl, hb⟩
  have Lp := Lib.hid (Lp.out.below hb Lp.out.lt)
  have Lx := Lib.hid (Lx.out.below hb Lx.out.lt)
  have Ly := Lib.hid (Ly.out.below hb Ly.out.lt)
  have Lz := Lib.hid (Lz.out.below hb Lz.out.lt)
  have HB := Lib.hid (HB.out.trans (hb.mono HS.out))
  have HS := Lib.hid (Nat.le_trans HS.out hb.size)
  clear hb
  clear xc0 xc1 xc2 xc3 xc4 xc5 yc0 yc1 yc2 yc3 yc4 yc5
  obtain ⟨Gxy, hG⟩ : ∃ G, U8.heap.size = G := ⟨_, rfl⟩
  go_upto_region 9 with fail
  obtain ⟨U9, hU⟩ : ∃ X, U8.alloc (.cells #[.int .i64 p1.a, .int .i64 p1.b, .int .i64 p1.c, .int .i64 p1.d, .int .i64 p1.e, .int .i64 p1.f] 23) = X := ⟨_, rfl⟩
  have Lp := Lib.hid (Lp.out.alloc (.cells #[.int .i64 p1.a, .int .i64 p1.b, .int .i64 p1.c, .int .i64 p1.d, .int .i64 p1.e, .int .i64 p1.f] 23))
  rw [hU] at Lp
  have Lx := Lib.hid (Lx.out.alloc (.cells #[.int .i64 p1.a, .int .i64 p1.b, .int .i64 p1.c, .int .i64 p1.d, .int .i64 p1.e, .int .i64 p1.f] 23))
  rw [hU] at Lx
  have Ly := Lib.hid (Ly.out.alloc (.cells #[.int .i64 p1.a, .int .i64 p1.b, .int .i64 p1.c, .int .i64 p1.d, .int .i64 p1.e, .int .i64 p1.f] 23))
  rw [hU] at Ly
  have Lz := Lib.hid (Lz.out.alloc (.cells #[.int .i64 p1.a, .int .i64 p1.b, .int .i64 p1.c, .int .i64 p1.d, .int .i64 p1.e, .int .i64 p1.f] 23))
  rw [hU] at Lz
  have Lxy : Hid (Blk U9 Gxy 23 #[.int .i64 p1.a, .int .i64 p1.b, .int .i64 p1.c, .int .i64 p1.d, .int .i64 p1.e, .int .i64 p1.f]) := Lib.hid (by rw [← hU, ← hG]; exact Blk.new U8 _ _)
  have HB := Lib.hid (HB.out.alloc HS.out (.cells #[.int .i64 p1.a, .int .i64 p1.b, .int .i64 p1.c, .int .i64 p1.d, .int .i64 p1.e, .int .i64 p1.f] 23))
  rw [hU] at HB
  have HS : Hid (N ≤ U9.heap.size) := Lib.hid (Nat.le_trans HS.out (by rw [← hU, World.size_alloc]; exact Nat.le_succ _))
  rw [hU]
  clear hU hG
  obtain ⟨xyc0, xyc1, xyc2, xyc3, xyc4, xyc5⟩ := (six_cells Lxy.out).1
  obtain ⟨zc0, zc1, zc2, zc3, zc4, zc5⟩ := (six_cells Lz.out).1
  go_wp2_with fail
  refine (K3.out U9).mono ?_
  rintro e U10 ⟨rfl, hb⟩
  have Lp := Lib.hid (Lp.out.below hb Lp.out.lt)
  have Lx := Lib.hid (Lx.out.below hb Lx.out.lt)
  have Ly := Lib.hid (Ly.out.below hb Ly.out.lt)
  have Lz := Lib.hid (Lz.out.below hb Lz.out.lt)
  have Lxy := Lib.hid (Lxy.out.below hb Lxy.out.lt)
  have HB := Lib.hid (HB.out.trans (hb.mono HS.out))
  have HS := Lib.hid (Nat.le_trans HS.out hb.size)
  clear hb
  clear xyc0 xyc1 xyc2 xyc3 xyc4 xyc5 zc0 zc1 zc2 zc3 zc4 zc5
  obtain ⟨Gle, hG⟩ : ∃ G, U10.heap.size = G := ⟨_, rfl⟩
  go_upto_region 10 with fail
  obtain ⟨U11, hU⟩ : ∃ X, U10.alloc (.cells #[.int .i64 p3.a, .int .i64 p3.b, .int .i64 p3.c, .int .i64 p3.d, .int .i64 p3.e, .int .i64 p3.f] 23) = X := ⟨_, rfl⟩
  have Lp := Lib.hid (Lp.out.alloc (.cells #[.int .i64 p3.a, .int .i64 p3.b, .int .i64 p3.c, .int .i64 p3.d, .int .i64 p3.e, .int .i64 p3.f] 23))
  rw [hU] at Lp
  have Lx := Lib.hid (Lx.out.alloc (.cells #[.int .i64 p3.a, .int .i64 p3.b, .int .i64 p3.c, .int .i64 p3.d, .int .i64 p3.e, .int .i64 p3.f] 23))
  rw [hU] at Lx
  have Ly := Lib.hid (Ly.out.alloc (.cells #[.int .i64 p3.a, .int .i64 p3.b, .int .i64 p3.c, .int .i64 p3.d, .int .i64 p3.e, .int .i64 p3.f] 23))
  rw [hU] at Ly
  have Lz := Lib.hid (Lz.out.alloc (.cells #[.int .i64 p3.a, .int .i64 p3.b, .int .i64 p3.c, .int .i64 p3.d, .int .i64 p3.e, .int .i64 p3.f] 23))
  rw [hU] at Lz
  have Lxy := Lib.hid (Lxy.out.alloc (.cells #[.int .i64 p3.a, .int .i64 p3.b, .int .i64 p3.c, .int .i64 p3.d, .int .i64 p3.e, .int .i64 p3.f] 23))
  rw [hU] at Lxy
  have Lle : Hid (Blk U11 Gle 23 #[.int .i64 p3.a, .int .i64 p3.b, .int .i64 p3.c, .int .i64 p3.d, .int .i64 p3.e, .int .i64 p3.f]) := Lib.hid (by rw [← hU, ← hG]; exact Blk.new U10 _ _)
  have HB := Lib.hid (HB.out.alloc HS.out (.cells #[.int .i64 p3.a, .int .i64 p3.b, .int .i64 p3.c, .int .i64 p3.d, .int .i64 p3.e, .int .i64 p3.f] 23))
  rw [hU] at HB
  have HS : Hid (N ≤ U11.heap.size) := Lib.hid (Nat.le_trans HS.out (by rw [← hU, World.size_alloc]; exact Nat.le_succ _))
  rw [hU]
  clear hU hG
  obtain ⟨yc0, yc1, yc2, yc3, yc4, yc5⟩ := (six_cells Ly.out).1
  obtain ⟨zc0, zc1, zc2, zc3, zc4, zc5⟩ := (six_cells Lz.out).1
  go_wp2_with fail
  refine (K2.out U11).mono ?_
  rintro e U12 ⟨rfl, hb⟩
  have Lp := Lib.hid (Lp.out.below hb Lp.out.lt)
  have Lx := Lib.hid (Lx.out.below hb Lx.out.lt)
  have Ly := Lib.hid (Ly.out.below hb Ly.out.lt)
  have Lz := Lib.hid (Lz.out.below hb Lz.out.lt)
  have Lxy := Lib.hid (Lxy.out.below hb Lxy.out.lt)
  have Lle := Lib.hid (Lle.out.below hb Lle.out.lt)
  have HB := Lib.hid (HB.out.trans (hb.mono HS.out))
  have HS := Lib.hid (Nat.le_trans HS.out hb.size)
  clear hb
  clear yc0 yc1 yc2 yc3 yc4 yc5 zc0 zc1 zc2 zc3 zc4 zc5
  obtain ⟨Gyz, hG⟩ : ∃ G, U12.heap.size = G := ⟨_, rfl⟩
  go_upto_region 11 with fail
  obtain ⟨U13, hU⟩ : ∃ X, U12.alloc (.cells #[.int .i64 p2.a, .int .i64 p2.b, .int .i64 p2.c, .int .i64 p2.d, .int .i64 p2.e, .int .i64 p2.f] 23) = X := ⟨_, rfl⟩
  have Lp := Lib.hid (Lp.out.alloc (.cells #[.int .i64 p2.a, .int .i64 p2.b, .int .i64 p2.c, .int .i64 p2.d, .int .i64 p2.e, .int .i64 p2.f] 23))
  rw [hU] at Lp
  have Lx := Lib.hid (Lx.out.alloc (.cells #[.int .i64 p2.a, .int .i64 p2.b, .int .i64 p2.c, .int .i64 p2.d, .int .i64 p2.e, .int .i64 p2.f] 23))
  rw [hU] at Lx
  have Ly := Lib.hid (Ly.out.alloc (.cells #[.int .i64 p2.a, .int .i64 p2.b, .int .i64 p2.c, .int .i64 p2.d, .int .i64 p2.e, .int .i64 p2.f] 23))
  rw [hU] at Ly
  have Lz := Lib.hid (Lz.out.alloc (.cells #[.int .i64 p2.a, .int .i64 p2.b, .int .i64 p2.c, .int .i64 p2.d, .int .i64 p2.e, .int .i64 p2.f] 23))
  rw [hU] at Lz
  have Lxy := Lib.hid (Lxy.out.alloc (.cells #[.int .i64 p2.a, .int .i64 p2.b, .int .i64 p2.c, .int .i64 p2.d, .int .i64 p2.e, .int .i64 p2.f] 23))
  rw [hU] at Lxy
  have Lle := Lib.hid (Lle.out.alloc (.cells #[.int .i64 p2.a, .int .i64 p2.b, .int .i64 p2.c, .int .i64 p2.d, .int .i64 p2.e, .int .i64 p2.f] 23))
  rw [hU] at Lle
  have Lyz : Hid (Blk U13 Gyz 23 #[.int .i64 p2.a, .int .i64 p2.b, .int .i64 p2.c, .int .i64 p2.d, .int .i64 p2.e, .int .i64 p2.f]) := Lib.hid (by rw [← hU, ← hG]; exact Blk.new U12 _ _)
  have HB := Lib.hid (HB.out.alloc HS.out (.cells #[.int .i64 p2.a, .int .i64 p2.b, .int .i64 p2.c, .int .i64 p2.d, .int .i64 p2.e, .int .i64 p2.f] 23))
  rw [hU] at HB
  have HS : Hid (N ≤ U13.heap.size) := Lib.hid (Nat.le_trans HS.out (by rw [← hU, World.size_alloc]; exact Nat.le_succ _))
  rw [hU]
  clear hU hG
  obtain ⟨xc0, xc1, xc2, xc3, xc4, xc5⟩ := (six_cells Lx.out).1
  obtain ⟨yzc0, yzc1, yzc2, yzc3, yzc4, yzc5⟩ := (six_cells Lyz.out).1
  go_wp2_with fail
  refine (K4.out U13).mono ?_
  rintro e U14 ⟨rfl, hb⟩
  have Lp := Lib.hid (Lp.out.below hb Lp.out.lt)
  have Lx := Lib.hid (Lx.out.below hb Lx.out.lt)
  have Ly := Lib.hid (Ly.out.below hb Ly.out.lt)
  have Lz := Lib.hid (Lz.out.below hb Lz.out.lt)
  have Lxy := Lib.hid (Lxy.out.below hb Lxy.out.lt)
  have Lle := Lib.hid (Lle.out.below hb Lle.out.lt)
  have Lyz := Lib.hid (Lyz.out.below hb Lyz.out.lt)
  have HB := Lib.hid (HB.out.trans (hb.mono HS.out))
  have HS := Lib.hid (Nat.le_trans HS.out hb.size)
  clear hb
  clear xc0 xc1 xc2 xc3 xc4 xc5 yzc0 yzc1 yzc2 yzc3 yzc4 yzc5
  obtain ⟨Gri, hG⟩ : ∃ G, U14.heap.size = G := ⟨_, rfl⟩
  go_upto_region 12 with fail
  obtain ⟨U15, hU⟩ : ∃ X, U14.alloc (.cells #[.int .i64 p3.a, .int .i64 p3.b, .int .i64 p3.c, .int .i64 p3.d, .int .i64 p3.e, .int .i64 p3.f] 23) = X := ⟨_, rfl⟩
  have Lp := Lib.hid (Lp.out.alloc (.cells #[.int .i64 p3.a, .int .i64 p3.b, .int .i64 p3.c, .int .i64 p3.d, .int .i64 p3.e, .int .i64 p3.f] 23))
  rw [hU] at Lp
  have Lx := Lib.hid (Lx.out.alloc (.cells #[.int .i64 p3.a, .int .i64 p3.b, .int .i64 p3.c, .int .i64 p3.d, .int .i64 p3.e, .int .i64 p3.f] 23))
  rw [hU] at Lx
  have Ly := Lib.hid (Ly.out.alloc (.cells #[.int .i64 p3.a, .int .i64 p3.b, .int .i64 p3.c, .int .i64 p3.d, .int .i64 p3.e, .int .i64 p3.f] 23))
  rw [hU] at Ly
  have Lz := Lib.hid (Lz.out.alloc (.cells #[.int .i64 p3.a, .int .i64 p3.b, .int .i64 p3.c, .int .i64 p3.d, .int .i64 p3.e, .int .i64 p3.f] 23))
  rw [hU] at Lz
  have Lxy := Lib.hid (Lxy.out.alloc (.cells #[.int .i64 p3.a, .int .i64 p3.b, .int .i64 p3.c, .int .i64 p3.d, .int .i64 p3.e, .int .i64 p3.f] 23))
  rw [hU] at Lxy
  have Lle := Lib.hid (Lle.out.alloc (.cells #[.int .i64 p3.a, .int .i64 p3.b, .int .i64 p3.c, .int .i64 p3.d, .int .i64 p3.e, .int .i64 p3.f] 23))
  rw [hU] at Lle
  have Lyz := Lib.hid (Lyz.out.alloc (.cells #[.int .i64 p3.a, .int .i64 p3.b, .int .i64 p3.c, .int .i64 p3.d, .int .i64 p3.e, .int .i64 p3.f] 23))
  rw [hU] at Lyz
  have Lri : Hid (Blk U15 Gri 23 #[.int .i64 p3.a, .int .i64 p3.b, .int .i64 p3.c, .int .i64 p3.d, .int .i64 p3.e, .int .i64 p3.f]) := Lib.hid (by rw [← hU, ← hG]; exact Blk.new U14 _ _)
  have HB := Lib.hid (HB.out.alloc HS.out (.cells #[.int .i64 p3.a, .int .i64 p3.b, .int .i64 p3.c, .int .i64 p3.d, .int .i64 p3.e, .int .i64 p3.f] 23))
  rw [hU] at HB
  have HS : Hid (N ≤ U15.heap.size) := Lib.hid (Nat.le_trans HS.out (by rw [← hU, World.size_alloc]; exact Nat.le_succ _))
  rw [hU]
  clear hU hG
  obtain ⟨xc0, xc1, xc2, xc3, xc4, xc5⟩ := (six_cells Lx.out).1
  obtain ⟨pc0, pc1⟩ := two_cells Lp.out
  go_wp2_with fail
  refine (K5.out U15).mono ?_
  rintro e U16 ⟨rfl, hb⟩
  have Lp := Lib.hid (Lp.out.below hb Lp.out.lt)
  have Lx := Lib.hid (Lx.out.below hb Lx.out.lt)
  have Ly := Lib.hid (Ly.out.below hb Ly.out.lt)
  have Lz := Lib.hid (Lz.out.below hb Lz.out.lt)
  have Lxy := Lib.hid (Lxy.out.below hb Lxy.out.lt)
  have Lle := Lib.hid (Lle.out.below hb Lle.out.lt)
  have Lyz := Lib.hid (Lyz.out.below hb Lyz.out.lt)
  have Lri := Lib.hid (Lri.out.below hb Lri.out.lt)
  have HB := Lib.hid (HB.out.trans (hb.mono HS.out))
  have HS := Lib.hid (Nat.le_trans HS.out hb.size)
  clear hb
  clear xc0 xc1 xc2 xc3 xc4 xc5 pc0 pc1
  obtain ⟨Gqa, hG⟩ : ∃ G, U16.heap.size = G := ⟨_, rfl⟩
  go_upto_region 13 with fail
  obtain ⟨U17, hU⟩ : ∃ X, U16.alloc (.cells #[.int .i64 x1, .int .i64 y1] 25) = X := ⟨_, rfl⟩
  have Lp := Lib.hid (Lp.out.alloc (.cells #[.int .i64 x1, .int .i64 y1] 25))
  rw [hU] at Lp
  have Lx := Lib.hid (Lx.out.alloc (.cells #[.int .i64 x1, .int .i64 y1] 25))
  rw [hU] at Lx
  have Ly := Lib.hid (Ly.out.alloc (.cells #[.int .i64 x1, .int .i64 y1] 25))
  rw [hU] at Ly
  have Lz := Lib.hid (Lz.out.alloc (.cells #[.int .i64 x1, .int .i64 y1] 25))
  rw [hU] at Lz
  have Lxy := Lib.hid (Lxy.out.alloc (.cells #[.int .i64 x1, .int .i64 y1] 25))
  rw [hU] at Lxy
  have Lle := Lib.hid (Lle.out.alloc (.cells #[.int .i64 x1, .int .i64 y1] 25))
  rw [hU] at Lle
  have Lyz := Lib.hid (Lyz.out.alloc (.cells #[.int .i64 x1, .int .i64 y1] 25))
  rw [hU] at Lyz
  have Lri := Lib.hid (Lri.out.alloc (.cells #[.int .i64 x1, .int .i64 y1] 25))
  rw [hU] at Lri
  have Lqa : Hid (Blk U17 Gqa 25 #[.int .i64 x1, .int .i64 y1]) := Lib.hid (by rw [← hU, ← hG]; exact Blk.new U16 _ _)
  have HB := Lib.hid (HB.out.alloc HS.out (.cells #[.int .i64 x1, .int .i64 y1] 25))
  rw [hU] at HB
  have HS : Hid (N ≤ U17.heap.size) := Lib.hid (Nat.le_trans HS.out (by rw [← hU, World.size_alloc]; exact Nat.le_succ _))
  rw [hU]
  clear hU hG
  obtain ⟨yc0, yc1, yc2, yc3, yc4, yc5⟩ := (six_cells Ly.out).1
  obtain ⟨qac0, qac1⟩ := two_cells Lqa.out
  go_wp2_with fail
  refine (K6.out U17).mono ?_
  rintro e U18 ⟨rfl, hb⟩
  have Lp := Lib.hid (Lp.out.below hb Lp.out.lt)
  have Lx := Lib.hid (Lx.out.below hb Lx.out.lt)
  have Ly := Lib.hid (Ly.out.below hb Ly.out.lt)
  have Lz := Lib.hid (Lz.out.below hb Lz.out.lt)
  have Lxy := Lib.hid (Lxy.out.below hb Lxy.out.lt)
  have Lle := Lib.hid (Lle.out.below hb Lle.out.lt)
  have Lyz := Lib.hid (Lyz.out.below hb Lyz.out.lt)
  have Lri := Lib.hid (Lri.out.below hb Lri.out.lt)
  have Lqa := Lib.hid (Lqa.out.below hb Lqa.out.lt)
  have HB := Lib.hid (HB.out.trans (hb.mono HS.out))
  have HS := Lib.hid (Nat.le_trans HS.out hb.size)
  clear hb
  clear yc0 yc1 yc2 yc3 yc4 yc5 qac0 qac1
  obtain ⟨Gqb, hG⟩ : ∃ G, U18.heap.size = G := ⟨_, rfl⟩
  go_upto_region 14 with fail
  obtain ⟨U19, hU⟩ : ∃ X, U18.alloc (.cells #[.int .i64 x2, .int .i64 y2] 25) = X := ⟨_, rfl⟩
  have Lp := Lib.hid (Lp.out.alloc (.cells #[.int .i64 x2, .int .i64 y2] 25))
  rw [hU] at Lp
  have Lx := Lib.hid (Lx.out.alloc (.cells #[.int .i64 x2, .int .i64 y2] 25))
  rw [hU] at Lx
  have Ly := Lib.hid (Ly.out.alloc (.cells #[.int .i64 x2, .int .i64 y2] 25))
  rw [hU] at Ly
  have Lz := Lib.hid (Lz.out.alloc (.cells #[.int .i64 x2, .int .i64 y2] 25))
  rw [hU] at Lz
  have Lxy := Lib.hid (Lxy.out.alloc (.cells #[.int .i64 x2, .int .i64 y2] 25))
  rw [hU] at Lxy
  have Lle := Lib.hid (Lle.out.alloc (.cells #[.int .i64 x2, .int .i64 y2] 25))
  rw [hU] at Lle
  have Lyz := Lib.hid (Lyz.out.alloc (.cells #[.int .i64 x2, .int .i64 y2] 25))
  rw [hU] at Lyz
  have Lri := Lib.hid (Lri.out.alloc (.cells #[.int .i64 x2, .int .i64 y2] 25))
  rw [hU] at Lri
  have Lqa := Lib.hid (Lqa.out.alloc (.cells #[.int .i64 x2, .int .i64 y2] 25))
  rw [hU] at Lqa
  have Lqb : Hid (Blk U19 Gqb 25 #[.int .i64 x2, .int .i64 y2]) := Lib.hid (by rw [← hU, ← hG]; exact Blk.new U18 _ _)
  have HB := Lib.hid (HB.out.alloc HS.out (.cells #[.int .i64 x2, .int .i64 y2] 25))
  rw [hU] at HB
  have HS : Hid (N ≤ U19.heap.size) := Lib.hid (Nat.le_trans HS.out (by rw [← hU, World.size_alloc]; exact Nat.le_succ _))
  rw [hU]
  clear hU hG
  obtain ⟨xyc0, xyc1, xyc2, xyc3, xyc4, xyc5⟩ := (six_cells Lxy.out).1
  obtain ⟨pc0, pc1⟩ := two_cells Lp.out
  go_wp2_with fail
  refine (K8.out U19).mono ?_
  rintro e U20 ⟨rfl, hb⟩
  have Lp := Lib.hid (Lp.out.below hb Lp.out.lt)
  have Lx := Lib.hid (Lx.out.below hb Lx.out.lt)
  have Ly := Lib.hid (Ly.out.below hb Ly.out.lt)
  have Lz := Lib.hid (Lz.out.below hb Lz.out.lt)
  have Lxy := Lib.hid (Lxy.out.below hb Lxy.out.lt)
  have Lle := Lib.hid (Lle.out.below hb Lle.out.lt)
  have Lyz := Lib.hid (Lyz.out.below hb Lyz.out.lt)
  have Lri := Lib.hid (Lri.out.below hb Lri.out.lt)
  have Lqa := Lib.hid (Lqa.out.below hb Lqa.out.lt)
  have Lqb := Lib.hid (Lqb.out.below hb Lqb.out.lt)
  have HB := Lib.hid (HB.out.trans (hb.mono HS.out))
  have HS := Lib.hid (Nat.le_trans HS.out hb.size)
  clear hb
  clear xyc0 xyc1 xyc2 xyc3 xyc4 xyc5 pc0 pc1
  obtain ⟨Gat, hG⟩ : ∃ G, U20.heap.size = G := ⟨_, rfl⟩
  go_upto_region 15 with fail
  obtain ⟨U21, hU⟩ : ∃ X, U20.alloc (.cells #[.int .i64 x2, .int .i64 y2] 25) = X := ⟨_, rfl⟩
  have Lp := Lib.hid (Lp.out.alloc (.cells #[.int .i64 x2, .int .i64 y2] 25))
  rw [hU] at Lp
  have Lx := Lib.hid (Lx.out.alloc (.cells #[.int .i64 x2, .int .i64 y2] 25))
  rw [hU] at Lx
  have Ly := Lib.hid (Ly.out.alloc (.cells #[.int .i64 x2, .int .i64 y2] 25))
  rw [hU] at Ly
  have Lz := Lib.hid (Lz.out.alloc (.cells #[.int .i64 x2, .int .i64 y2] 25))
  rw [hU] at Lz
  have Lxy := Lib.hid (Lxy.out.alloc (.cells #[.int .i64 x2, .int .i64 y2] 25))
  rw [hU] at Lxy
  have Lle := Lib.hid (Lle.out.alloc (.cells #[.int .i64 x2, .int .i64 y2] 25))
  rw [hU] at Lle
  have Lyz := Lib.hid (Lyz.out.alloc (.cells #[.int .i64 x2, .int .i64 y2] 25))
  rw [hU] at Lyz
  have Lri := Lib.hid (Lri.out.alloc (.cells #[.int .i64 x2, .int .i64 y2] 25))
  rw [hU] at Lri
  have Lqa := Lib.hid (Lqa.out.alloc (.cells #[.int .i64 x2, .int .i64 y2] 25))
  rw [hU] at Lqa
  have Lqb := Lib.hid (Lqb.out.alloc (.cells #[.int .i64 x2, .int .i64 y2] 25))
  rw [hU] at Lqb
  have Lat : Hid (Blk U21 Gat 25 #[.int .i64 x2, .int .i64 y2]) := Lib.hid (by rw [← hU, ← hG]; exact Blk.new U20 _ _)
  have HB := Lib.hid (HB.out.alloc HS.out (.cells #[.int .i64 x2, .int .i64 y2] 25))
  rw [hU] at HB
  have HS : Hid (N ≤ U21.heap.size) := Lib.hid (Nat.le_trans HS.out (by rw [← hU, World.size_alloc]; exact Nat.le_succ _))
  rw [hU]
  clear hU hG
  obtain ⟨lec0, lec1, lec2, lec3, lec4, lec5⟩ := (six_cells Lle.out).1
  obtain ⟨ric0, ric1, ric2, ric3, ric4, ric5⟩ := (six_cells Lri.out).1
  obtain ⟨qbc0, qbc1⟩ := two_cells Lqb.out
  obtain ⟨atc0, atc1⟩ := two_cells Lat.out
  go_wp2_with fail
  go_ret
  exact ⟨rfl, HB.out⟩
end Go.Proofs.Ytghmchcoegidkaa
