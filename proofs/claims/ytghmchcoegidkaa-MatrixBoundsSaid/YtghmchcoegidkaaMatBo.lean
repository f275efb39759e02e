/-
  MatrixBounds: the box contains the transformed corners and touches one on each side; the length is the integer square root.
-/
import Derived.Test.YtghmchcoegidkaaMatLv
import Derived.Deep.DeepCutAuto
namespace Go.Proofs.Ytghmchcoegidkaa
open Go.RowKit Fix Mat

/-- Does one of the first k numbers meet z? -/
def tB (z : Int) (f : Nat → Int) : Nat → Bool
  | 0 => false
  | k + 1 => tB z f k || (f k == z)
theorem tB_true {z : Int} {f : Nat → Int} : ∀ {k j : Nat}, j < k → f j = z → tB z f k = true
  | 0, _, h, _ => absurd h (Nat.not_lt_zero _)
  | k + 1, j, h, e => by
    show (tB z f k || (f k == z)) = true
    by_cases hj : j < k
    · rw [tB_true hj e]; rfl
    · obtain rfl : j = k := by omega
      rw [e]; simp
def uK (m : Mx) (r : Rc) (k : Nat) : Int := appA m (corX r k) (corY r k)
def vK (m : Mx) (r : Rc) (k : Nat) : Int := appB m (corX r k) (corY r k)
theorem box_is (m : Mx) (r : Rc) : boxN m r 3 = ⟨min (min (min (uK m r 0) (uK m r 1)) (uK m r 2)) (uK m r 3), min (min (min (vK m r 0) (vK m r 1)) (vK m r 2)) (vK m r 3), max (max (max (uK m r 0) (uK m r 1)) (uK m r 2)) (uK m r 3), max (max (max (vK m r 0) (vK m r 1)) (vK m r 2)) (vK m r 3)⟩ := rfl
theorem four_min (a b c d : Int) : a = min (min (min a b) c) d ∨ b = min (min (min a b) c) d ∨ c = min (min (min a b) c) d ∨ d = min (min (min a b) c) d := by omega
theorem four_max (a b c d : Int) : a = max (max (max a b) c) d ∨ b = max (max (max a b) c) d ∨ c = max (max (max a b) c) d ∨ d = max (max (max a b) c) d := by omega
theorem touch {f : Nat → Int} {z : Int} (h : f 0 = z ∨ f 1 = z ∨ f 2 = z ∨ f 3 = z) : tB z f 4 = true := by
  rcases h with h | h | h | h
  · exact tB_true (j := 0) (by decide) h
  · exact tB_true (j := 1) (by decide) h
  · exact tB_true (j := 2) (by decide) h
  · exact tB_true (j := 3) (by decide) h
theorem box_touch {m : Mx} {r q : Rc} (hq : boxN m r 3 = q) : tB q.x0 (uK m r) 4 = true ∧ tB q.x1 (uK m r) 4 = true ∧ tB q.y0 (vK m r) 4 = true ∧ tB q.y1 (vK m r) 4 = true := by
  rw [← hq, box_is]
  exact ⟨touch (four_min _ _ _ _), touch (four_max _ _ _ _), touch (four_min _ _ _ _), touch (four_max _ _ _ _)⟩
theorem box_in {m : Mx} {r q : Rc} (hq : boxN m r 3 = q) {k : Nat} (hk : k < 4) : q.x0 ≤ uK m r k ∧ uK m r k ≤ q.x1 ∧ q.y0 ≤ vK m r k ∧ vK m r k ≤ q.y1 := by
  rw [← hq, box_is]
  simp only
  rcases (show k = 0 ∨ k = 1 ∨ k = 2 ∨ k = 3 by omega) with rfl | rfl | rfl | rfl <;> omega
theorem boxO_in {m : Mx} {r : Rc} (h : boxO m r = true) {k : Nat} (hk : k < 4) : appO m (corX r k) (corY r k) = true := by
  unfold boxO at h
  simp only [Bool.and_eq_true] at h
  rcases (show k = 0 ∨ k = 1 ∨ k = 2 ∨ k = 3 by omega) with rfl | rfl | rfl | rfl
  · exact h.1.1.1
  · exact h.1.1.2
  · exact h.1.2
  · exact h.2
theorem row_at (r : Rc) {k : Nat} (h : k < 4) : (#[.int .i64 r.x0, .int .i64 r.y0, .int .i64 r.x1, .int .i64 r.y0, .int .i64 r.x0, .int .i64 r.y1, .int .i64 r.x1, .int .i64 r.y1] : Array Value)[k * 2]? = some (.int .i64 (corX r k)) ∧ (#[.int .i64 r.x0, .int .i64 r.y0, .int .i64 r.x1, .int .i64 r.y0, .int .i64 r.x0, .int .i64 r.y1, .int .i64 r.x1, .int .i64 r.y1] : Array Value)[k * 2 + 1]? = some (.int .i64 (corY r k)) := by
  rcases (show k = 0 ∨ k = 1 ∨ k = 2 ∨ k = 3 by omega) with rfl | rfl | rfl | rfl <;> exact ⟨rfl, rfl⟩
theorem app_of3 {m : Mx} {x y : Int} (h : appO m x y = true) : appP m x y = (appA m x y, appB m x y) ∧ appX m x y = 0 := by unfold appP appX; rw [if_pos h, if_pos h]; exact ⟨rfl, rfl⟩
/-- What Length and Apply answer together. -/
theorem len_facts (m : Mx) (x y : Int) : ∃ n e u v f, LenIs m x y n e ∧ appP (flatM m) x y = (u, v) ∧ appX (flatM m) x y = f ∧
    ((e = 0 ∧ f = 0 ∧ 0 ≤ n ∧ n ≤ 1073741824 ∧ n * n ≤ u * u + v * v ∧ u * u + v * v < (n + 1) * (n + 1) ∧ 0 ≤ u * u ∧ u * u ≤ 1152921504606846976 ∧ 0 ≤ v * v ∧ v * v ≤ 1152921504606846976) ∨ e = 2) := by
  obtain ⟨n, e, h⟩ := LenIs_ex m x y
  rcases h with ⟨ho, r, hr, hc⟩ | ⟨ho, hn, he⟩
  · have ha := app_of3 ho
    obtain ⟨h1, h2⟩ := app_in ho
    refine ⟨n, e, _, _, _, .inl ⟨ho, r, hr, hc⟩, ha.1, ha.2, ?_⟩
    rcases hc with ⟨hle, rfl, rfl⟩ | ⟨_, _, rfl⟩
    · exact .inl ⟨rfl, rfl, hr.1, hle, hr.2.1, hr.2.2, (sq_bound h1).1, (sq_bound h1).2, (sq_bound h2).1, (sq_bound h2).2⟩
    · exact .inr rfl
  · exact ⟨n, e, _, _, _, .inr ⟨ho, hn, he⟩, rfl, rfl, .inr he⟩

/-- What the rounds of MatrixBounds know. -/
structure BndAt (w : World) (N Gb G : Nat) (m : Mx) (r q : Rc) (wr : World) : Prop where
  ba : Blk wr N 23 #[.int .i64 m.a, .int .i64 m.b, .int .i64 m.c, .int .i64 m.d, .int .i64 m.e, .int .i64 m.f]
  bb : Blk wr Gb 27 #[.int .i64 q.x0, .int .i64 q.y0, .int .i64 q.x1, .int .i64 q.y1]
  bg : Blk wr G 25 #[.int .i64 r.x0, .int .i64 r.y0, .int .i64 r.x1, .int .i64 r.y0, .int .i64 r.x0, .int .i64 r.y1, .int .i64 r.x1, .int .i64 r.y1]
  below : Below N w wr

set_option maxRecDepth 100000 in
set_option maxHeartbeats 16000000 in
theorem bounds_any (m : Mx) (r : Rc) (x y : Int) (w : World) :
    Calls Try.prog 7 #[mxV m, rcV r, ptV x y] w fun e w' => e = .returned (.bool true) ∧ Below w.heap.size w w' := by
  obtain ⟨n, e0, u, v, f, hlen, happ, hf, hcase⟩ := len_facts m x y
  have HCase := Lib.hid hcase
  have K2 := Lib.hid (fun W : World => length_any m x y n e0 W hlen)
  have K3 := Lib.hid (fun W : World => apply_pt (flatM m) x y u v f W happ hf)
  obtain ⟨q, hq⟩ : ∃ q, boxQ m r = q := ⟨_, rfl⟩
  obtain ⟨bx, hbx⟩ : ∃ b, boxX m r = b := ⟨_, rfl⟩
  have K1 := Lib.hid (fun W : World => box_rc m r q bx W hq hbx)
  have HBx : Hid ((bx = 2) ∨ (bx = 0 ∧ boxO m r = true ∧ boxN m r 3 = q)) := Lib.hid (by
    by_cases ho : boxO m r = true
    · exact .inr ⟨by rw [← hbx]; unfold boxX; rw [if_pos ho], ho, by rw [← hq]; unfold boxQ; rw [if_pos ho]⟩
    · exact .inl (by rw [← hbx]; unfold boxX; rw [if_neg ho]))
  unfold mxV rcV rcR at K1
  unfold rcV at K1
  unfold mxV ptV at K2
  unfold mxV ptV ptR at K3
  unfold ptV flatM at K3
  clear hlen happ hf hcase hq hbx
  unfold mxV ptV rcV
  obtain ⟨N, hN⟩ : ∃ N, w.heap.size = N := ⟨_, rfl⟩
  obtain ⟨B, hB⟩ : ∃ B, N + 1 = B := ⟨_, rfl⟩
  obtain ⟨P, hP⟩ : ∃ P, B + 1 = P := ⟨_, rfl⟩
  obtain ⟨V, hV⟩ : ∃ V, ((w.alloc (.cells #[.int .i64 m.a, .int .i64 m.b, .int .i64 m.c, .int .i64 m.d, .int .i64 m.e, .int .i64 m.f] 23)).alloc (.cells #[.int .i64 r.x0, .int .i64 r.y0, .int .i64 r.x1, .int .i64 r.y1] 27)).alloc (.cells #[.int .i64 x, .int .i64 y] 25) = V := ⟨_, rfl⟩
  have hVs : V.heap.size = P + 1 := by rw [← hV]; simp [hN]; omega
  have La := Lib.hid (show Blk V N 23 #[.int .i64 m.a, .int .i64 m.b, .int .i64 m.c, .int .i64 m.d, .int .i64 m.e, .int .i64 m.f] by rw [← hV, ← hN]; exact ((Blk.new w _ _).alloc _).alloc _)
  have Lr := Lib.hid (show Blk V B 27 #[.int .i64 r.x0, .int .i64 r.y0, .int .i64 r.x1, .int .i64 r.y1] by
    rw [← hV]
    have := (Blk.new (w.alloc (.cells #[.int .i64 m.a, .int .i64 m.b, .int .i64 m.c, .int .i64 m.d, .int .i64 m.e, .int .i64 m.f] 23)) 27 #[.int .i64 r.x0, .int .i64 r.y0, .int .i64 r.x1, .int .i64 r.y1]).alloc (.cells #[.int .i64 x, .int .i64 y] 25)
    rw [World.size_alloc, hN, hB] at this
    exact this)
  have Lp := Lib.hid (show Blk V P 25 #[.int .i64 x, .int .i64 y] by
    rw [← hV]
    have := Blk.new ((w.alloc (.cells #[.int .i64 m.a, .int .i64 m.b, .int .i64 m.c, .int .i64 m.d, .int .i64 m.e, .int .i64 m.f] 23)).alloc (.cells #[.int .i64 r.x0, .int .i64 r.y0, .int .i64 r.x1, .int .i64 r.y1] 27)) 25 #[.int .i64 x, .int .i64 y]
    rw [World.size_alloc, World.size_alloc, hN, hB, hP] at this
    exact this)
  have HB := Lib.hid (show Below N w V by rw [← hV, ← hN]; exact (((Below.refl _ w).alloc (Nat.le_refl _) _).alloc (by simp) _).alloc (by simp; omega) _)
  have HS := Lib.hid (show N ≤ V.heap.size by omega)
  rw [hN]
  go_enter Try.func7, Try.ntmps7
  go_upto_region 1 with fail
  clear hV hN hB hP hVs
  go_wp2_with fail
  refine (matLives V).mono ?_
  rintro e U1 ⟨rfl, hb⟩
  have La := Lib.hid (La.out.below hb La.out.lt)
  have Lr := Lib.hid (Lr.out.below hb Lr.out.lt)
  have Lp := Lib.hid (Lp.out.below hb Lp.out.lt)
  have HB := Lib.hid (HB.out.trans (hb.mono HS.out))
  have HS := Lib.hid (Nat.le_trans HS.out hb.size)
  clear hb
  obtain ⟨ac0, ac1, ac2, ac3, ac4, ac5⟩ := (six_cells La.out).1
  obtain ⟨rc0, rc1, rc2, rc3⟩ := (four_cells Lr.out).1
  go_wp2_with fail
  refine (K1.out U1).mono ?_
  rintro e U2 ⟨rfl, hb⟩
  have La := Lib.hid (La.out.below hb La.out.lt)
  have Lr := Lib.hid (Lr.out.below hb Lr.out.lt)
  have Lp := Lib.hid (Lp.out.below hb Lp.out.lt)
  have HB := Lib.hid (HB.out.trans (hb.mono HS.out))
  have HS := Lib.hid (Nat.le_trans HS.out hb.size)
  clear hb
  clear ac0 ac1 ac2 ac3 ac4 ac5 rc0 rc1 rc2 rc3
  obtain ⟨Gb, hG⟩ : ∃ G, U2.heap.size = G := ⟨_, rfl⟩
  go_upto_region 4 with fail
  obtain ⟨U3, hU⟩ : ∃ X, U2.alloc (.cells #[.int .i64 q.x0, .int .i64 q.y0, .int .i64 q.x1, .int .i64 q.y1] 27) = X := ⟨_, rfl⟩
  have La := Lib.hid (La.out.alloc (.cells #[.int .i64 q.x0, .int .i64 q.y0, .int .i64 q.x1, .int .i64 q.y1] 27))
  rw [hU] at La
  have Lr := Lib.hid (Lr.out.alloc (.cells #[.int .i64 q.x0, .int .i64 q.y0, .int .i64 q.x1, .int .i64 q.y1] 27))
  rw [hU] at Lr
  have Lp := Lib.hid (Lp.out.alloc (.cells #[.int .i64 q.x0, .int .i64 q.y0, .int .i64 q.x1, .int .i64 q.y1] 27))
  rw [hU] at Lp
  have Lb : Hid (Blk U3 Gb 27 #[.int .i64 q.x0, .int .i64 q.y0, .int .i64 q.x1, .int .i64 q.y1]) := Lib.hid (by rw [← hU, ← hG]; exact Blk.new U2 _ _)
  have HB := Lib.hid (HB.out.alloc HS.out (.cells #[.int .i64 q.x0, .int .i64 q.y0, .int .i64 q.x1, .int .i64 q.y1] 27))
  rw [hU] at HB
  have HS : Hid (N ≤ U3.heap.size) := Lib.hid (Nat.le_trans HS.out (by rw [← hU, World.size_alloc]; exact Nat.le_succ _))
  rw [hU]
  clear hU hG
  obtain ⟨ac0, ac1, ac2, ac3, ac4, ac5⟩ := (six_cells La.out).1
  obtain ⟨pc0, pc1⟩ := two_cells Lp.out
  go_wp2_with fail
  refine (K2.out U3).mono ?_
  rintro e U4 ⟨rfl, hb⟩
  have La := Lib.hid (La.out.below hb La.out.lt)
  have Lr := Lib.hid (Lr.out.below hb Lr.out.lt)
  have Lp := Lib.hid (Lp.out.below hb Lp.out.lt)
  have Lb := Lib.hid (Lb.out.below hb Lb.out.lt)
  have HB := Lib.hid (HB.out.trans (hb.mono HS.out))
  have HS := Lib.hid (Nat.le_trans HS.out hb.size)
  clear hb
  clear ac0 ac1 ac2 ac3 ac4 ac5 pc0 pc1
  obtain ⟨ac0, ac1, ac2, ac3, ac4, ac5⟩ := (six_cells La.out).1
  go_upto_region 5 with fail
  have KA := Lib.hid (show N < U4.heap.size from La.out.lt)
  have KR := Lib.hid (show B < U4.heap.size from Lr.out.lt)
  have KP := Lib.hid (show P < U4.heap.size from Lp.out.lt)
  have KB := Lib.hid (show Gb < U4.heap.size from Lb.out.lt)
  obtain ⟨Gf, hG⟩ : ∃ G, U4.heap.size = G := ⟨_, rfl⟩
  go_upto_region 6 with fail
  obtain ⟨U5, hU⟩ : ∃ X, U4.alloc (.cells #[.int .i64 m.a, .int .i64 m.b, .int .i64 m.c, .int .i64 m.d, .int .i64 m.e, .int .i64 m.f] 23) = X := ⟨_, rfl⟩
  have La := Lib.hid (La.out.alloc (.cells #[.int .i64 m.a, .int .i64 m.b, .int .i64 m.c, .int .i64 m.d, .int .i64 m.e, .int .i64 m.f] 23))
  rw [hU] at La
  have Lr := Lib.hid (Lr.out.alloc (.cells #[.int .i64 m.a, .int .i64 m.b, .int .i64 m.c, .int .i64 m.d, .int .i64 m.e, .int .i64 m.f] 23))
  rw [hU] at Lr
  have Lp := Lib.hid (Lp.out.alloc (.cells #[.int .i64 m.a, .int .i64 m.b, .int .i64 m.c, .int .i64 m.d, .int .i64 m.e, .int .i64 m.f] 23))
  rw [hU] at Lp
  have Lb := Lib.hid (Lb.out.alloc (.cells #[.int .i64 m.a, .int .i64 m.b, .int .i64 m.c, .int .i64 m.d, .int .i64 m.e, .int .i64 m.f] 23))
  rw [hU] at Lb
  have HNe : Hid (N ≠ Gf ∧ B ≠ Gf ∧ P ≠ Gf ∧ Gb ≠ Gf ∧ N ≤ Gf) := Lib.hid (by rw [← hG]; exact ⟨Nat.ne_of_lt KA.out, Nat.ne_of_lt KR.out, Nat.ne_of_lt KP.out, Nat.ne_of_lt KB.out, Nat.le_of_lt KA.out⟩)
  have Lf : Hid (Blk U5 Gf 23 #[.int .i64 m.a, .int .i64 m.b, .int .i64 m.c, .int .i64 m.d, .int .i64 m.e, .int .i64 m.f]) := Lib.hid (by rw [← hU, ← hG]; exact Blk.new U4 _ _)
  have HB := Lib.hid (HB.out.alloc HS.out (.cells #[.int .i64 m.a, .int .i64 m.b, .int .i64 m.c, .int .i64 m.d, .int .i64 m.e, .int .i64 m.f] 23))
  rw [hU] at HB
  have HS : Hid (N ≤ U5.heap.size) := Lib.hid (Nat.le_trans HS.out (by rw [← hU, World.size_alloc]; exact Nat.le_succ _))
  rw [hU]
  clear hU hG
  clear ac0 ac1 ac2 ac3 ac4 ac5
  obtain ⟨⟨c0, c1, c2, c3, c4, c5⟩, ⟨f0, f1, f2, f3, f4, f5⟩⟩ := six_cells Lf.out
  go_upto_region 7 with fail
  obtain ⟨U6, hU⟩ : ∃ X, (U5.setCell ⟨Gf, 4, none⟩ (.int .i64 0)).setCell ⟨Gf, 5, none⟩ (.int .i64 0) = X := ⟨_, rfl⟩
  have HGf := Lib.hid (show N ≠ Gf ∧ B ≠ Gf ∧ P ≠ Gf ∧ Gb ≠ Gf ∧ N ≤ Gf from HNe.out)
  have La := Lib.hid ((La.out.far (p := ⟨Gf, 4, none⟩) HGf.out.1 (.int .i64 0)).far (p := ⟨Gf, 5, none⟩) HGf.out.1 (.int .i64 0))
  rw [hU] at La
  have Lr := Lib.hid ((Lr.out.far (p := ⟨Gf, 4, none⟩) HGf.out.2.1 (.int .i64 0)).far (p := ⟨Gf, 5, none⟩) HGf.out.2.1 (.int .i64 0))
  rw [hU] at Lr
  have Lp := Lib.hid ((Lp.out.far (p := ⟨Gf, 4, none⟩) HGf.out.2.2.1 (.int .i64 0)).far (p := ⟨Gf, 5, none⟩) HGf.out.2.2.1 (.int .i64 0))
  rw [hU] at Lp
  have Lb := Lib.hid ((Lb.out.far (p := ⟨Gf, 4, none⟩) HGf.out.2.2.2.1 (.int .i64 0)).far (p := ⟨Gf, 5, none⟩) HGf.out.2.2.2.1 (.int .i64 0))
  rw [hU] at Lb
  have Lf := Lib.hid ((Lf.out.set_ 4 (.int .i64 0)).set_ 5 (.int .i64 0))
  rw [hU] at Lf
  have HB := Lib.hid ((HB.out.setCell (p := ⟨Gf, 4, none⟩) HGf.out.2.2.2.2 (.int .i64 0)).setCell (p := ⟨Gf, 5, none⟩) HGf.out.2.2.2.2 (.int .i64 0))
  rw [hU] at HB
  have HS : Hid (N ≤ U6.heap.size) := Lib.hid (Nat.le_of_lt La.out.lt)
  rw [hU]
  clear hU c0 c1 c2 c3 c4 c5 f0 f1 f2 f3 f4 f5 HNe
  replace Lf : Hid (Blk U6 Gf 23 #[.int .i64 m.a, .int .i64 m.b, .int .i64 m.c, .int .i64 m.d, .int .i64 0, .int .i64 0]) := Lf
  obtain ⟨fc0, fc1, fc2, fc3, fc4, fc5⟩ := (six_cells Lf.out).1
  obtain ⟨pc0, pc1⟩ := two_cells Lp.out
  go_wp2_with fail
  refine (K3.out U6).mono ?_
  rintro e U7 ⟨rfl, hb⟩
  have La := Lib.hid (La.out.below hb La.out.lt)
  have Lr := Lib.hid (Lr.out.below hb Lr.out.lt)
  have Lp := Lib.hid (Lp.out.below hb Lp.out.lt)
  have Lb := Lib.hid (Lb.out.below hb Lb.out.lt)
  have Lf := Lib.hid (Lf.out.below hb Lf.out.lt)
  have HB := Lib.hid (HB.out.trans (hb.mono HS.out))
  have HS := Lib.hid (Nat.le_trans HS.out hb.size)
  clear hb
  clear fc0 fc1 fc2 fc3 fc4 fc5 pc0 pc1
  obtain ⟨Gq, hG⟩ : ∃ G, U7.heap.size = G := ⟨_, rfl⟩
  go_upto_region 8 with fail
  obtain ⟨U8, hU⟩ : ∃ X, U7.alloc (.cells #[.int .i64 u, .int .i64 v] 25) = X := ⟨_, rfl⟩
  have La := Lib.hid (La.out.alloc (.cells #[.int .i64 u, .int .i64 v] 25))
  rw [hU] at La
  have Lr := Lib.hid (Lr.out.alloc (.cells #[.int .i64 u, .int .i64 v] 25))
  rw [hU] at Lr
  have Lp := Lib.hid (Lp.out.alloc (.cells #[.int .i64 u, .int .i64 v] 25))
  rw [hU] at Lp
  have Lb := Lib.hid (Lb.out.alloc (.cells #[.int .i64 u, .int .i64 v] 25))
  rw [hU] at Lb
  have Lf := Lib.hid (Lf.out.alloc (.cells #[.int .i64 u, .int .i64 v] 25))
  rw [hU] at Lf
  have Lq : Hid (Blk U8 Gq 25 #[.int .i64 u, .int .i64 v]) := Lib.hid (by rw [← hU, ← hG]; exact Blk.new U7 _ _)
  have HB := Lib.hid (HB.out.alloc HS.out (.cells #[.int .i64 u, .int .i64 v] 25))
  rw [hU] at HB
  have HS : Hid (N ≤ U8.heap.size) := Lib.hid (Nat.le_trans HS.out (by rw [← hU, World.size_alloc]; exact Nat.le_succ _))
  rw [hU]
  clear hU hG
  obtain ⟨qc0, qc1⟩ := two_cells Lq.out
  go_cut [90] (fun z wx => z = .bool false ∧ wx = U8)
  case first =>
    as_aux_lemma =>
      rcases HCase.out with ⟨rfl, rfl, n0, n1, n2, n3, u1, u2, v1, v2⟩ | rfl
      · have w1 : IntKind.i64.wrap (u * u) = u * u := IntWalk.i64_in _ (by omega)
        have w2 : IntKind.i64.wrap (v * v) = v * v := IntWalk.i64_in _ (by omega)
        have w3 : IntKind.i64.wrap (u * u + v * v) = u * u + v * v := IntWalk.i64_in _ (by omega)
        have k0 : 0 ≤ n * n := Int.mul_nonneg n0 n0
        have w4 : IntKind.i64.wrap (n * n) = n * n := IntWalk.i64_in _ (by omega)
        have w5 : IntKind.i64.wrap (n + 1) = n + 1 := IntWalk.i64_in _ (by omega)
        have k1 : (n + 1) * (n + 1) = n * n + 2 * n + 1 := by rw [Int.add_mul, Int.mul_add]; omega
        have w6 : IntKind.i64.wrap ((n + 1) * (n + 1)) = (n + 1) * (n + 1) := IntWalk.i64_in _ (by omega)
        have i1 : ¬ n < 0 := by omega
        have i2 : ¬ u * u + v * v < n * n := by omega
        have i3 : ¬ (n + 1) * (n + 1) ≤ u * u + v * v := by omega
        clear n0 n1 n2 n3 u1 u2 v1 v2 k0 k1
        go_wp2_with fail
        go_meet
        exact ⟨rfl, rfl⟩
      · go_wp2_with fail
        go_meet
        exact ⟨rfl, rfl⟩
  case rest =>
    obtain ⟨rfl, hwc⟩ := hcut
    rw [hwc]
    clear hwc qc0 qc1
    rcases HBx.out with rfl | ⟨rfl, hbo, hbq⟩
    · go_wp2_with fail
      go_ret
      exact ⟨rfl, HB.out⟩
    have HBo := Lib.hid (fun (k : Nat) (hk : k < 4) => boxO_in hbo hk)
    have HIn := Lib.hid (fun (k : Nat) (hk : k < 4) => box_in hbq hk)
    have HTo := Lib.hid (box_touch hbq)
    clear hbo hbq
    go_upto_region 13 with fail
    obtain ⟨rc0, rc1, rc2, rc3⟩ := (four_cells Lr.out).1
    obtain ⟨G, hG⟩ : ∃ G, U8.heap.size = G := ⟨_, rfl⟩
    obtain ⟨U, hU⟩ : ∃ U, U8.alloc (.cells #[.int .i64 r.x0, .int .i64 r.y0, .int .i64 r.x1, .int .i64 r.y0, .int .i64 r.x0, .int .i64 r.y1, .int .i64 r.x1, .int .i64 r.y1] 25) = U := ⟨_, rfl⟩
    have HI0 : Hid (BndAt w N Gb G m r q U) := Lib.hid (by rw [← hU]; exact ⟨La.out.alloc _, Lb.out.alloc _, by rw [← hG]; exact Blk.new U8 _ _, HB.out.alloc HS.out _⟩)
    go_wp2_with fail
    clear rc0 rc1 rc2 rc3
    clear hU hG La Lr Lp Lb Lf Lq
    go_loopw [14, 15, 16, 17, 115] (fun b1 b2 b3 b4 i wr => ∃ k : Nat, k ≤ 4 ∧ i = .int .i64 (k : Int) ∧ b1 = .bool (tB q.x0 (uK m r) k) ∧ b2 = .bool (tB q.x1 (uK m r) k) ∧ b3 = .bool (tB q.y0 (vK m r) k) ∧ b4 = .bool (tB q.y1 (vK m r) k) ∧ Hid (BndAt w N Gb G m r q wr)) (fun _ _ _ _ i _ => 4 - (intOf i).toNat)
    case atStart => exact ⟨0, by omega, rfl, rfl, rfl, rfl, rfl, HI0⟩
    case round =>
      clear HI0
      obtain ⟨k, hk, rfl, rfl, rfl, rfl, rfl, HI⟩ := hrel
      by_cases hlt : k < 4
      · have hik : (k : Int) < 4 := by omega
        have hik0 : (0 : Int) ≤ (k : Int) := by omega
        have r0 : wr.cell? ⟨G, k * 2, none⟩ = some (.int .i64 (corX r k)) := (HI.out.bg.cell _).trans (row_at r hlt).1
        have r1 : wr.cell? ⟨G, k * 2 + 1, none⟩ = some (.int .i64 (corY r k)) := (HI.out.bg.cell _).trans (row_at r hlt).2
        have happ := app_of3 (HBo.out k hlt)
        have hin := HIn.out k hlt
        have hn0 : tB q.x0 (uK m r) (k + 1) = (tB q.x0 (uK m r) k || (uK m r k == q.x0)) := rfl
        have hn1 : tB q.x1 (uK m r) (k + 1) = (tB q.x1 (uK m r) k || (uK m r k == q.x1)) := rfl
        have hn2 : tB q.y0 (vK m r) (k + 1) = (tB q.y0 (vK m r) k || (vK m r k == q.y0)) := rfl
        have hn3 : tB q.y1 (vK m r) (k + 1) = (tB q.y1 (vK m r) k || (vK m r k == q.y1)) := rfl
        obtain ⟨cx, hcx⟩ : ∃ z, corX r k = z := ⟨_, rfl⟩
        obtain ⟨cy, hcy⟩ : ∃ z, corY r k = z := ⟨_, rfl⟩
        rw [show appA m (corX r k) (corY r k) = uK m r k from rfl, show appB m (corX r k) (corY r k) = vK m r k from rfl] at happ
        rw [hcx, hcy] at happ
        rw [hcx] at r0
        rw [hcy] at r1
        obtain ⟨uk, huk⟩ : ∃ z, uK m r k = z := ⟨_, rfl⟩
        obtain ⟨vk, hvk⟩ : ∃ z, vK m r k = z := ⟨_, rfl⟩
        rw [huk, hvk] at happ hin
        rw [huk] at hn0 hn1
        rw [hvk] at hn2 hn3
        have KA := Lib.hid (fun W : World => apply_pt m cx cy uk vk 0 W happ.1 happ.2)
        unfold mxV ptV ptR at KA
        unfold ptV at KA
        obtain ⟨b1, hb1⟩ : ∃ b, tB q.x0 (uK m r) k = b := ⟨_, rfl⟩
        obtain ⟨b2, hb2⟩ : ∃ b, tB q.x1 (uK m r) k = b := ⟨_, rfl⟩
        obtain ⟨b3, hb3⟩ : ∃ b, tB q.y0 (vK m r) k = b := ⟨_, rfl⟩
        obtain ⟨b4, hb4⟩ : ∃ b, tB q.y1 (vK m r) k = b := ⟨_, rfl⟩
        rw [hb1] at hn0
        rw [hb2] at hn1
        rw [hb3] at hn2
        rw [hb4] at hn3
        rw [hb1, hb2, hb3, hb4]
        have HNx := Lib.hid (And.intro hn0 (And.intro hn1 (And.intro hn2 hn3)))
        have HK := Lib.hid hlt
        have g1 : ¬ uk < q.x0 := by omega
        have g2 : ¬ q.x1 < uk := by omega
        have g3 : ¬ vk < q.y0 := by omega
        have g4 : ¬ q.y1 < vk := by omega
        obtain ⟨j0, hj⟩ : ∃ j, k * 2 = j := ⟨_, rfl⟩
        rw [hj] at r0 r1
        clear happ hin hcx hcy huk hvk hb1 hb2 hb3 hb4 hn0 hn1 hn2 hn3 hlt hk
        have La := Lib.hid HI.out.ba
        have Lb := Lib.hid HI.out.bb
        have Lg := Lib.hid HI.out.bg
        have HB := Lib.hid HI.out.below
        have HS := Lib.hid (Nat.le_of_lt HI.out.ba.lt)
        clear HI
        obtain ⟨Gc, hG⟩ : ∃ G, wr.heap.size = G := ⟨_, rfl⟩
        go_upto_region 16 with fail
        obtain ⟨U9, hU⟩ : ∃ X, wr.alloc (.cells #[.int .i64 cx, .int .i64 cy] 25) = X := ⟨_, rfl⟩
        have La := Lib.hid (La.out.alloc (.cells #[.int .i64 cx, .int .i64 cy] 25))
        rw [hU] at La
        have Lb := Lib.hid (Lb.out.alloc (.cells #[.int .i64 cx, .int .i64 cy] 25))
        rw [hU] at Lb
        have Lg := Lib.hid (Lg.out.alloc (.cells #[.int .i64 cx, .int .i64 cy] 25))
        rw [hU] at Lg
        have Lc : Hid (Blk U9 Gc 25 #[.int .i64 cx, .int .i64 cy]) := Lib.hid (by rw [← hU, ← hG]; exact Blk.new wr _ _)
        have HB := Lib.hid (HB.out.alloc HS.out (.cells #[.int .i64 cx, .int .i64 cy] 25))
        rw [hU] at HB
        have HS : Hid (N ≤ U9.heap.size) := Lib.hid (Nat.le_trans HS.out (by rw [← hU, World.size_alloc]; exact Nat.le_succ _))
        rw [hU]
        clear hU hG
        clear r0 r1 hj hik0
        obtain ⟨ac0, ac1, ac2, ac3, ac4, ac5⟩ := (six_cells La.out).1
        obtain ⟨cc0, cc1⟩ := two_cells Lc.out
        go_wp2_with fail
        refine (KA.out U9).mono ?_
        rintro e U10 ⟨rfl, hb⟩
        have La := Lib.hid (La.out.below hb La.out.lt)
        have Lb := Lib.hid (Lb.out.below hb Lb.out.lt)
        have Lg := Lib.hid (Lg.out.below hb Lg.out.lt)
        have Lc := Lib.hid (Lc.out.below hb Lc.out.lt)
        have HB := Lib.hid (HB.out.trans (hb.mono HS.out))
        have HS := Lib.hid (Nat.le_trans HS.out hb.size)
        clear hb
        clear ac0 ac1 ac2 ac3 ac4 ac5 cc0 cc1
        obtain ⟨Gt, hG⟩ : ∃ G, U10.heap.size = G := ⟨_, rfl⟩
        go_upto_region 17 with fail
        obtain ⟨U11, hU⟩ : ∃ X, U10.alloc (.cells #[.int .i64 uk, .int .i64 vk] 25) = X := ⟨_, rfl⟩
        have La := Lib.hid (La.out.alloc (.cells #[.int .i64 uk, .int .i64 vk] 25))
        rw [hU] at La
        have Lb := Lib.hid (Lb.out.alloc (.cells #[.int .i64 uk, .int .i64 vk] 25))
        rw [hU] at Lb
        have Lg := Lib.hid (Lg.out.alloc (.cells #[.int .i64 uk, .int .i64 vk] 25))
        rw [hU] at Lg
        have Lc := Lib.hid (Lc.out.alloc (.cells #[.int .i64 uk, .int .i64 vk] 25))
        rw [hU] at Lc
        have Lt : Hid (Blk U11 Gt 25 #[.int .i64 uk, .int .i64 vk]) := Lib.hid (by rw [← hU, ← hG]; exact Blk.new U10 _ _)
        have HB := Lib.hid (HB.out.alloc HS.out (.cells #[.int .i64 uk, .int .i64 vk] 25))
        rw [hU] at HB
        have HS : Hid (N ≤ U11.heap.size) := Lib.hid (Nat.le_trans HS.out (by rw [← hU, World.size_alloc]; exact Nat.le_succ _))
        rw [hU]
        clear hU hG
        obtain ⟨bc0, bc1, bc2, bc3⟩ := (four_cells Lb.out).1
        obtain ⟨tc0, tc1⟩ := two_cells Lt.out
        go_upto_region 19 with fail
        clear g1 g2 g3 g4
        obtain ⟨e1, he1⟩ : ∃ e, (uk == q.x0) = e := ⟨_, rfl⟩
        obtain ⟨e2, he2⟩ : ∃ e, (uk == q.x1) = e := ⟨_, rfl⟩
        obtain ⟨e3, he3⟩ : ∃ e, (vk == q.y0) = e := ⟨_, rfl⟩
        obtain ⟨e4, he4⟩ : ∃ e, (vk == q.y1) = e := ⟨_, rfl⟩
        have HNy := HNx.out
        rw [he1, he2, he3, he4] at HNy
        have HNz := Lib.hid HNy
        clear HNy HNx
        cases b1 <;> cases b2 <;> cases b3 <;> cases b4
        all_goals
          as_aux_lemma =>
            go_wp2_with fail
            go_quiet (fail)
            go_wp2_with fail
            go_roundw
            case rel => exact ⟨k + 1, by have := HK.out; omega, by go_num, by rw [HNz.out.1]; rfl, by rw [HNz.out.2.1]; rfl, by rw [HNz.out.2.2.1]; rfl, by rw [HNz.out.2.2.2]; rfl, Lib.hid ⟨La.out.drewN _, Lb.out.drewN _, Lg.out.drewN _, below_drewN HB.out _⟩⟩
            case measure => simp [intOf]; have := HK.out; omega
      · obtain rfl : k = 4 := by omega
        have HB := Lib.hid HI.out.below
        rw [HTo.out.1, HTo.out.2.1, HTo.out.2.2.1, HTo.out.2.2.2]
        rw [show ((4 : Nat) : Int) = 4 from rfl]
        clear hlt hk
        go_wp2_with fail
        go_ret
        exact ⟨rfl, HB.out⟩
end Go.Proofs.Ytghmchcoegidkaa
