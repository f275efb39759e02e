/-
  MatrixNear: every coefficient of a product and every coordinate is the exact value rounded to nearest.
-/
import Derived.Test.YtghmchcoegidkaaMatLv
namespace Go.Proofs.Ytghmchcoegidkaa
open Go.RowKit Fix Mat

set_option maxRecDepth 100000 in
theorem near_yes (n s : Int) (w : World) (hn : n = nearS s 10000) (hs : Le s 100000000000000) :
    Calls Try.prog 33 #[.int .i64 n, .int .i64 s] w fun e w' => e = .returned (.bool true) ∧ w = w' := by
  have h := near_law s
  rw [← hn] at h
  unfold Le at hs
  have hw1 : IntKind.i64.wrap (20000 * n) = 20000 * n := IntWalk.i64_in _ (by omega)
  have hw2 : IntKind.i64.wrap (2 * s) = 2 * s := IntWalk.i64_in _ (by omega)
  have hw3 : IntKind.i64.wrap (20000 * n - 2 * s) = 20000 * n - 2 * s := IntWalk.i64_in _ (by omega)
  obtain ⟨d, hd⟩ : ∃ d, 20000 * n - 2 * s = d := ⟨_, rfl⟩
  rw [hd] at hw3 h
  have h1 := h.1
  have h2 := h.2
  clear hs hn h
  go_enter Try.func33, Try.ntmps33
  go_wp2_with fail
  go_ret
  exact ⟨rfl, rfl⟩

/-- The numbers that MatrixNear looks at. -/
def neL (a b : Mx) (x y : Int) : List Int := [a.a, a.b, a.c, a.d, a.e, a.f, b.a, b.b, b.c, b.d, b.e, b.f, x, y]
theorem neL_at (a b : Mx) (x y : Int) {k : Nat} (h : k < 14) : (#[.int .i64 a.a, .int .i64 a.b, .int .i64 a.c, .int .i64 a.d, .int .i64 a.e, .int .i64 a.f, .int .i64 b.a, .int .i64 b.b, .int .i64 b.c, .int .i64 b.d, .int .i64 b.e, .int .i64 b.f, .int .i64 x, .int .i64 y] : Array Value)[k]? = some (.int .i64 ((neL a b x y).getD k 0)) := by
  rcases (show k = 0 ∨ k = 1 ∨ k = 2 ∨ k = 3 ∨ k = 4 ∨ k = 5 ∨ k = 6 ∨ k = 7 ∨ k = 8 ∨ k = 9 ∨ k = 10 ∨ k = 11 ∨ k = 12 ∨ k = 13 by omega) with rfl | rfl | rfl | rfl | rfl | rfl | rfl | rfl | rfl | rfl | rfl | rfl | rfl | rfl <;> rfl
/-- What is asked of them. -/
def NeOk (a b : Mx) (x y : Int) : Prop := Flat a ∧ Flat b ∧ Le x 2000000 ∧ Le y 2000000
theorem ne_ok {a b : Mx} {x y : Int} (h : ∀ k, k < 14 → Le ((neL a b x y).getD k 0) 2000000) : NeOk a b x y :=
  ⟨⟨h 0 (by decide), h 1 (by decide), h 2 (by decide), h 3 (by decide), h 4 (by decide), h 5 (by decide)⟩, ⟨h 6 (by decide), h 7 (by decide), h 8 (by decide), h 9 (by decide), h 10 (by decide), h 11 (by decide)⟩, h 12 (by decide), h 13 (by decide)⟩
theorem mul_of2 {a b : Mx} (h : mulO a b = true) : mulQ a b = mulM a b ∧ mulX a b = 0 := by unfold mulQ mulX; rw [if_pos h, if_pos h]; exact ⟨rfl, rfl⟩
theorem app_of2 {m : Mx} {x y : Int} (h : appO m x y = true) : appP m x y = (appA m x y, appB m x y) ∧ appX m x y = 0 := by unfold appP appX; rw [if_pos h, if_pos h]; exact ⟨rfl, rfl⟩

/-- Facts of a sum of two products. -/
theorem sum4 {p q r s : Int} (h1 : Le p 2000000) (h2 : Le q 2000000) (h3 : Le r 2000000) (h4 : Le s 2000000) :
    IntKind.i64.wrap (p * q) = p * q ∧ IntKind.i64.wrap (r * s) = r * s ∧ IntKind.i64.wrap (p * q + r * s) = p * q + r * s ∧ Le (p * q + r * s) 100000000000000 ∧ Le (p * q + r * s) 8000000000000 := by
  have k1 := h1.mul h2 (by decide) (by decide)
  have k2 := h3.mul h4 (by decide) (by decide)
  have k3 := k1.add k2
  unfold Le at k1 k2 k3 ⊢
  exact ⟨IntWalk.i64_in _ (by omega), IntWalk.i64_in _ (by omega), IntWalk.i64_in _ (by omega), by omega, by omega⟩
theorem sum6 {p q r s t : Int} (h1 : Le p 2000000) (h2 : Le q 2000000) (h3 : Le r 2000000) (h4 : Le s 2000000) (h5 : Le t 2000000) :
    IntKind.i64.wrap (10000 * t) = 10000 * t ∧ IntKind.i64.wrap (p * q + r * s + 10000 * t) = p * q + r * s + 10000 * t ∧ Le (p * q + r * s + 10000 * t) 100000000000000 := by
  have k := (sum4 h1 h2 h3 h4).2.2.2.2
  unfold Le at k h5 ⊢
  exact ⟨IntWalk.i64_in _ (by omega), IntWalk.i64_in _ (by omega), by omega⟩
theorem near6 (p q r s t : Int) : d6 p q r s t = nearS (p * q + r * s + 10000 * t) 10000 := by unfold d6; rw [Int.mul_comm t 10000]

set_option maxRecDepth 100000 in
set_option maxHeartbeats 16000000 in
theorem nearLaw_any (a b : Mx) (x y : Int) (w : World) :
    Calls Try.prog 6 #[mxV a, mxV b, ptV x y] w fun e w' => e = .returned (.bool true) ∧ Below w.heap.size w w' := by
  unfold mxV ptV
  obtain ⟨N, hN⟩ : ∃ N, w.heap.size = N := ⟨_, rfl⟩
  obtain ⟨B, hB⟩ : ∃ B, N + 1 = B := ⟨_, rfl⟩
  obtain ⟨P, hP⟩ : ∃ P, B + 1 = P := ⟨_, rfl⟩
  obtain ⟨V, hV⟩ : ∃ V, ((w.alloc (.cells #[.int .i64 a.a, .int .i64 a.b, .int .i64 a.c, .int .i64 a.d, .int .i64 a.e, .int .i64 a.f] 23)).alloc (.cells #[.int .i64 b.a, .int .i64 b.b, .int .i64 b.c, .int .i64 b.d, .int .i64 b.e, .int .i64 b.f] 23)).alloc (.cells #[.int .i64 x, .int .i64 y] 25) = V := ⟨_, rfl⟩
  have hVs : V.heap.size = P + 1 := by rw [← hV]; simp [hN]; omega
  have La := Lib.hid (show Blk V N 23 #[.int .i64 a.a, .int .i64 a.b, .int .i64 a.c, .int .i64 a.d, .int .i64 a.e, .int .i64 a.f] by rw [← hV, ← hN]; exact ((Blk.new w _ _).alloc _).alloc _)
  have Lb := Lib.hid (show Blk V B 23 #[.int .i64 b.a, .int .i64 b.b, .int .i64 b.c, .int .i64 b.d, .int .i64 b.e, .int .i64 b.f] by
    rw [← hV]
    have := (Blk.new (w.alloc (.cells #[.int .i64 a.a, .int .i64 a.b, .int .i64 a.c, .int .i64 a.d, .int .i64 a.e, .int .i64 a.f] 23)) 23 #[.int .i64 b.a, .int .i64 b.b, .int .i64 b.c, .int .i64 b.d, .int .i64 b.e, .int .i64 b.f]).alloc (.cells #[.int .i64 x, .int .i64 y] 25)
    rw [World.size_alloc, hN, hB] at this
    exact this)
  have Lp := Lib.hid (show Blk V P 25 #[.int .i64 x, .int .i64 y] by
    rw [← hV]
    have := Blk.new ((w.alloc (.cells #[.int .i64 a.a, .int .i64 a.b, .int .i64 a.c, .int .i64 a.d, .int .i64 a.e, .int .i64 a.f] 23)).alloc (.cells #[.int .i64 b.a, .int .i64 b.b, .int .i64 b.c, .int .i64 b.d, .int .i64 b.e, .int .i64 b.f] 23)) 25 #[.int .i64 x, .int .i64 y]
    rw [World.size_alloc, World.size_alloc, hN, hB, hP] at this
    exact this)
  have HB := Lib.hid (show Below N w V by rw [← hV, ← hN]; exact (((Below.refl _ w).alloc (Nat.le_refl _) _).alloc (by simp) _).alloc (by simp; omega) _)
  have HS := Lib.hid (show N ≤ V.heap.size by omega)
  rw [hN]
  go_enter Try.func6, Try.ntmps6
  go_upto_region 1 with fail
  clear hV hN hB hP hVs
  go_wp2_with fail
  refine (matLives V).mono ?_
  rintro e U1 ⟨rfl, hb⟩
  have La := Lib.hid (La.out.below hb La.out.lt)
  have Lb := Lib.hid (Lb.out.below hb Lb.out.lt)
  have Lp := Lib.hid (Lp.out.below hb Lp.out.lt)
  have HB := Lib.hid (HB.out.trans (hb.mono HS.out))
  have HS := Lib.hid (Nat.le_trans HS.out hb.size)
  clear hb
  obtain ⟨ac0, ac1, ac2, ac3, ac4, ac5⟩ := (six_cells La.out).1
  obtain ⟨bc0, bc1, bc2, bc3, bc4, bc5⟩ := (six_cells Lb.out).1
  obtain ⟨pc0, pc1⟩ := two_cells Lp.out
  go_upto_region 3 with fail
  obtain ⟨G, hG⟩ : ∃ G, U1.heap.size = G := ⟨_, rfl⟩
  obtain ⟨U, hU⟩ : ∃ U, U1.alloc (.cells #[.int .i64 a.a, .int .i64 a.b, .int .i64 a.c, .int .i64 a.d, .int .i64 a.e, .int .i64 a.f, .int .i64 b.a, .int .i64 b.b, .int .i64 b.c, .int .i64 b.d, .int .i64 b.e, .int .i64 b.f, .int .i64 x, .int .i64 y] 2) = U := ⟨_, rfl⟩
  have LG : Hid (Blk U G 2 #[.int .i64 a.a, .int .i64 a.b, .int .i64 a.c, .int .i64 a.d, .int .i64 a.e, .int .i64 a.f, .int .i64 b.a, .int .i64 b.b, .int .i64 b.c, .int .i64 b.d, .int .i64 b.e, .int .i64 b.f, .int .i64 x, .int .i64 y]) := Lib.hid (by rw [← hU, ← hG]; exact Blk.new U1 _ _)
  have La := Lib.hid (La.out.alloc (.cells #[.int .i64 a.a, .int .i64 a.b, .int .i64 a.c, .int .i64 a.d, .int .i64 a.e, .int .i64 a.f, .int .i64 b.a, .int .i64 b.b, .int .i64 b.c, .int .i64 b.d, .int .i64 b.e, .int .i64 b.f, .int .i64 x, .int .i64 y] 2))
  rw [hU] at La
  have Lb := Lib.hid (Lb.out.alloc (.cells #[.int .i64 a.a, .int .i64 a.b, .int .i64 a.c, .int .i64 a.d, .int .i64 a.e, .int .i64 a.f, .int .i64 b.a, .int .i64 b.b, .int .i64 b.c, .int .i64 b.d, .int .i64 b.e, .int .i64 b.f, .int .i64 x, .int .i64 y] 2))
  rw [hU] at Lb
  have Lp := Lib.hid (Lp.out.alloc (.cells #[.int .i64 a.a, .int .i64 a.b, .int .i64 a.c, .int .i64 a.d, .int .i64 a.e, .int .i64 a.f, .int .i64 b.a, .int .i64 b.b, .int .i64 b.c, .int .i64 b.d, .int .i64 b.e, .int .i64 b.f, .int .i64 x, .int .i64 y] 2))
  rw [hU] at Lp
  have HB := Lib.hid (HB.out.alloc HS.out (.cells #[.int .i64 a.a, .int .i64 a.b, .int .i64 a.c, .int .i64 a.d, .int .i64 a.e, .int .i64 a.f, .int .i64 b.a, .int .i64 b.b, .int .i64 b.c, .int .i64 b.d, .int .i64 b.e, .int .i64 b.f, .int .i64 x, .int .i64 y] 2))
  rw [hU] at HB
  have HS : Hid (N ≤ U.heap.size) := Lib.hid (Nat.le_trans HS.out (by rw [← hU, World.size_alloc]; exact Nat.le_succ _))
  go_wp2_with fail
  clear ac0 ac1 ac2 ac3 ac4 ac5 bc0 bc1 bc2 bc3 bc4 bc5 pc0 pc1
  clear hU hG
  go_loopw [45] (fun i wr => ∃ k : Nat, k ≤ 14 ∧ i = .int .i64 (k : Int) ∧ Hid (∀ j, j < k → Le ((neL a b x y).getD j 0) 2000000) ∧ wr = U) (fun i _ => 14 - (intOf i).toNat)
  case atStart => exact ⟨0, by omega, rfl, Lib.hid (fun j h => by omega), rfl⟩
  case round =>
    obtain ⟨k, hk, rfl, hinv, rfl⟩ := hrel
    by_cases hlt : k < 14
    · have hik : (k : Int) < 14 := by omega
      have hik0 : (0 : Int) ≤ (k : Int) := by omega
      have hcell : wr.cell? ⟨G, k, none⟩ = some (.int .i64 ((neL a b x y).getD k 0)) := (LG.out.cell k).trans (neL_at a b x y hlt)
      obtain ⟨v, hv⟩ : ∃ v, (neL a b x y).getD k 0 = v := ⟨_, rfl⟩
      rw [hv] at hcell
      by_cases r1 : v < -2000000
      · clear hv
        go_wp2_with fail
        go_ret
        exact ⟨rfl, HB.out⟩
      · by_cases r2 : 2000000 < v
        · clear hv
          go_wp2_with fail
          go_ret
          exact ⟨rfl, HB.out⟩
        · have HV := Lib.hid (show Le ((neL a b x y).getD k 0) 2000000 by rw [hv]; exact ⟨by omega, by omega⟩)
          clear hv
          go_wp2_with fail
          go_roundw
          case rel =>
            refine ⟨k + 1, by omega, by go_num, Lib.hid (fun j hj => ?_), trivial⟩
            by_cases h : j < k
            · exact hinv.out j h
            · obtain rfl : j = k := by omega
              exact HV.out
          case measure => simp [intOf]; omega
    · obtain rfl : k = 14 := by omega
      have HOK := Lib.hid (ne_ok hinv.out)
      rw [show ((14 : Nat) : Int) = 14 from rfl]
      clear hlt hk hinv
      have hmul := mul_of2 (HOK.out.1.mul HOK.out.2.1)
      have happ := app_of2 (HOK.out.1.app HOK.out.2.2.1 HOK.out.2.2.2)
      obtain ⟨p, hp⟩ : ∃ p, mulM a b = p := ⟨_, rfl⟩
      obtain ⟨u, hu⟩ : ∃ u, appA a x y = u := ⟨_, rfl⟩
      obtain ⟨v, hv⟩ : ∃ v, appB a x y = v := ⟨_, rfl⟩
      rw [hp] at hmul
      rw [hu, hv] at happ
      have HP := Lib.hid hp
      have HUV := Lib.hid (And.intro hu hv)
      have K1 : Hid (∀ W : World, Calls Try.prog 11 #[.agg #[.int .i64 a.a, .int .i64 a.b, .int .i64 a.c, .int .i64 a.d, .int .i64 a.e, .int .i64 a.f], .agg #[.int .i64 b.a, .int .i64 b.b, .int .i64 b.c, .int .i64 b.d, .int .i64 b.e, .int .i64 b.f]] W fun e w' => e = .returned (.tuple #[.agg #[.int .i64 p.a, .int .i64 p.b, .int .i64 p.c, .int .i64 p.d, .int .i64 p.e, .int .i64 p.f], .int .i64 0]) ∧ Below W.heap.size W w') := Lib.hid (fun W => mul_mx a b p 0 W hmul.1 hmul.2)
      have K2 : Hid (∀ W : World, Calls Try.prog 13 #[.agg #[.int .i64 a.a, .int .i64 a.b, .int .i64 a.c, .int .i64 a.d, .int .i64 a.e, .int .i64 a.f], .agg #[.int .i64 x, .int .i64 y]] W fun e w' => e = .returned (.tuple #[.agg #[.int .i64 u, .int .i64 v], .int .i64 0]) ∧ Below W.heap.size W w') := Lib.hid (fun W => apply_pt a x y u v 0 W happ.1 happ.2)
      clear hmul happ hp hu hv
      go_upto_region 9 with fail
      obtain ⟨ac0, ac1, ac2, ac3, ac4, ac5⟩ := (six_cells La.out).1
      obtain ⟨bc0, bc1, bc2, bc3, bc4, bc5⟩ := (six_cells Lb.out).1
      go_wp2_with fail
      refine (K1.out wr).mono ?_
      rintro e U2 ⟨rfl, hb⟩
      have La := Lib.hid (La.out.below hb La.out.lt)
      have Lb := Lib.hid (Lb.out.below hb Lb.out.lt)
      have Lp := Lib.hid (Lp.out.below hb Lp.out.lt)
      have HB := Lib.hid (HB.out.trans (hb.mono HS.out))
      have HS := Lib.hid (Nat.le_trans HS.out hb.size)
      clear hb
      clear ac0 ac1 ac2 ac3 ac4 ac5 bc0 bc1 bc2 bc3 bc4 bc5
      obtain ⟨Gm, hG⟩ : ∃ G, U2.heap.size = G := ⟨_, rfl⟩
      go_upto_region 10 with fail
      obtain ⟨U3, hU⟩ : ∃ X, U2.alloc (.cells #[.int .i64 p.a, .int .i64 p.b, .int .i64 p.c, .int .i64 p.d, .int .i64 p.e, .int .i64 p.f] 23) = X := ⟨_, rfl⟩
      have La := Lib.hid (La.out.alloc (.cells #[.int .i64 p.a, .int .i64 p.b, .int .i64 p.c, .int .i64 p.d, .int .i64 p.e, .int .i64 p.f] 23))
      rw [hU] at La
      have Lb := Lib.hid (Lb.out.alloc (.cells #[.int .i64 p.a, .int .i64 p.b, .int .i64 p.c, .int .i64 p.d, .int .i64 p.e, .int .i64 p.f] 23))
      rw [hU] at Lb
      have Lp := Lib.hid (Lp.out.alloc (.cells #[.int .i64 p.a, .int .i64 p.b, .int .i64 p.c, .int .i64 p.d, .int .i64 p.e, .int .i64 p.f] 23))
      rw [hU] at Lp
      have Lm : Hid (Blk U3 Gm 23 #[.int .i64 p.a, .int .i64 p.b, .int .i64 p.c, .int .i64 p.d, .int .i64 p.e, .int .i64 p.f]) := Lib.hid (by rw [← hU, ← hG]; exact Blk.new U2 _ _)
      have HB := Lib.hid (HB.out.alloc HS.out (.cells #[.int .i64 p.a, .int .i64 p.b, .int .i64 p.c, .int .i64 p.d, .int .i64 p.e, .int .i64 p.f] 23))
      rw [hU] at HB
      have HS : Hid (N ≤ U3.heap.size) := Lib.hid (Nat.le_trans HS.out (by rw [← hU, World.size_alloc]; exact Nat.le_succ _))
      rw [hU]
      clear hU hG
      obtain ⟨ac0, ac1, ac2, ac3, ac4, ac5⟩ := (six_cells La.out).1
      obtain ⟨pc0, pc1⟩ := two_cells Lp.out
      go_wp2_with fail
      refine (K2.out U3).mono ?_
      rintro e U4 ⟨rfl, hb⟩
      have La := Lib.hid (La.out.below hb La.out.lt)
      have Lb := Lib.hid (Lb.out.below hb Lb.out.lt)
      have Lp := Lib.hid (Lp.out.below hb Lp.out.lt)
      have Lm := Lib.hid (Lm.out.below hb Lm.out.lt)
      have HB := Lib.hid (HB.out.trans (hb.mono HS.out))
      have HS := Lib.hid (Nat.le_trans HS.out hb.size)
      clear hb
      clear ac0 ac1 ac2 ac3 ac4 ac5 pc0 pc1
      obtain ⟨Gq, hG⟩ : ∃ G, U4.heap.size = G := ⟨_, rfl⟩
      go_upto_region 13 with fail
      obtain ⟨U5, hU⟩ : ∃ X, U4.alloc (.cells #[.int .i64 u, .int .i64 v] 25) = X := ⟨_, rfl⟩
      have La := Lib.hid (La.out.alloc (.cells #[.int .i64 u, .int .i64 v] 25))
      rw [hU] at La
      have Lb := Lib.hid (Lb.out.alloc (.cells #[.int .i64 u, .int .i64 v] 25))
      rw [hU] at Lb
      have Lp := Lib.hid (Lp.out.alloc (.cells #[.int .i64 u, .int .i64 v] 25))
      rw [hU] at Lp
      have Lm := Lib.hid (Lm.out.alloc (.cells #[.int .i64 u, .int .i64 v] 25))
      rw [hU] at Lm
      have Lq : Hid (Blk U5 Gq 25 #[.int .i64 u, .int .i64 v]) := Lib.hid (by rw [← hU, ← hG]; exact Blk.new U4 _ _)
      have HB := Lib.hid (HB.out.alloc HS.out (.cells #[.int .i64 u, .int .i64 v] 25))
      rw [hU] at HB
      have HS : Hid (N ≤ U5.heap.size) := Lib.hid (Nat.le_trans HS.out (by rw [← hU, World.size_alloc]; exact Nat.le_succ _))
      rw [hU]
      clear hU hG
      obtain ⟨ac0, ac1, ac2, ac3, ac4, ac5⟩ := (six_cells La.out).1
      obtain ⟨bc0, bc1, bc2, bc3, bc4, bc5⟩ := (six_cells Lb.out).1
      obtain ⟨pc0, pc1⟩ := two_cells Lp.out
      obtain ⟨mc0, mc1, mc2, mc3, mc4, mc5⟩ := (six_cells Lm.out).1
      obtain ⟨qc0, qc1⟩ := two_cells Lq.out
      have z := sum4 HOK.out.1.1 HOK.out.2.1.1 HOK.out.1.2.1 HOK.out.2.1.2.2.1
      have z1 : IntKind.i64.wrap (a.a * b.a) = a.a * b.a := z.1
      have z2 : IntKind.i64.wrap (a.b * b.c) = a.b * b.c := z.2.1
      have z3 : IntKind.i64.wrap (a.a * b.a + a.b * b.c) = a.a * b.a + a.b * b.c := z.2.2.1
      have HNr := Lib.hid (near_yes p.a (a.a * b.a + a.b * b.c) U5 (by rw [← HP.out]; rfl) z.2.2.2.1)
      clear z
      go_wp2_with fail
      refine HNr.out.mono ?_
      rintro e w' ⟨rfl, rfl⟩
      clear HNr z1 z2 z3
      have z := sum4 HOK.out.1.1 HOK.out.2.1.2.1 HOK.out.1.2.1 HOK.out.2.1.2.2.2.1
      have z1 : IntKind.i64.wrap (a.a * b.b) = a.a * b.b := z.1
      have z2 : IntKind.i64.wrap (a.b * b.d) = a.b * b.d := z.2.1
      have z3 : IntKind.i64.wrap (a.a * b.b + a.b * b.d) = a.a * b.b + a.b * b.d := z.2.2.1
      have HNr := Lib.hid (near_yes p.b (a.a * b.b + a.b * b.d) U5 (by rw [← HP.out]; rfl) z.2.2.2.1)
      clear z
      go_wp2_with fail
      refine HNr.out.mono ?_
      rintro e w' ⟨rfl, rfl⟩
      clear HNr z1 z2 z3
      have z := sum4 HOK.out.1.2.2.1 HOK.out.2.1.1 HOK.out.1.2.2.2.1 HOK.out.2.1.2.2.1
      have z1 : IntKind.i64.wrap (a.c * b.a) = a.c * b.a := z.1
      have z2 : IntKind.i64.wrap (a.d * b.c) = a.d * b.c := z.2.1
      have z3 : IntKind.i64.wrap (a.c * b.a + a.d * b.c) = a.c * b.a + a.d * b.c := z.2.2.1
      have HNr := Lib.hid (near_yes p.c (a.c * b.a + a.d * b.c) U5 (by rw [← HP.out]; rfl) z.2.2.2.1)
      clear z
      go_wp2_with fail
      refine HNr.out.mono ?_
      rintro e w' ⟨rfl, rfl⟩
      clear HNr z1 z2 z3
      have z := sum4 HOK.out.1.2.2.1 HOK.out.2.1.2.1 HOK.out.1.2.2.2.1 HOK.out.2.1.2.2.2.1
      have z1 : IntKind.i64.wrap (a.c * b.b) = a.c * b.b := z.1
      have z2 : IntKind.i64.wrap (a.d * b.d) = a.d * b.d := z.2.1
      have z3 : IntKind.i64.wrap (a.c * b.b + a.d * b.d) = a.c * b.b + a.d * b.d := z.2.2.1
      have HNr := Lib.hid (near_yes p.d (a.c * b.b + a.d * b.d) U5 (by rw [← HP.out]; rfl) z.2.2.2.1)
      clear z
      go_wp2_with fail
      refine HNr.out.mono ?_
      rintro e w' ⟨rfl, rfl⟩
      clear HNr z1 z2 z3
      have z := sum4 HOK.out.1.2.2.2.2.1 HOK.out.2.1.1 HOK.out.1.2.2.2.2.2 HOK.out.2.1.2.2.1
      have z1 : IntKind.i64.wrap (a.e * b.a) = a.e * b.a := z.1
      have z2 : IntKind.i64.wrap (a.f * b.c) = a.f * b.c := z.2.1
      have z3 : IntKind.i64.wrap (a.e * b.a + a.f * b.c) = a.e * b.a + a.f * b.c := z.2.2.1
      have zz := sum6 HOK.out.1.2.2.2.2.1 HOK.out.2.1.1 HOK.out.1.2.2.2.2.2 HOK.out.2.1.2.2.1 HOK.out.2.1.2.2.2.2.1
      have z4 : IntKind.i64.wrap (10000 * b.e) = 10000 * b.e := zz.1
      have z5 : IntKind.i64.wrap (a.e * b.a + a.f * b.c + 10000 * b.e) = a.e * b.a + a.f * b.c + 10000 * b.e := zz.2.1
      have HNr := Lib.hid (near_yes p.e (a.e * b.a + a.f * b.c + 10000 * b.e) U5 (by rw [← HP.out]; exact near6 _ _ _ _ _) zz.2.2)
      clear z zz
      go_wp2_with fail
      refine HNr.out.mono ?_
      rintro e w' ⟨rfl, rfl⟩
      clear HNr z1 z2 z3 z4 z5
      have z := sum4 HOK.out.1.2.2.2.2.1 HOK.out.2.1.2.1 HOK.out.1.2.2.2.2.2 HOK.out.2.1.2.2.2.1
      have z1 : IntKind.i64.wrap (a.e * b.b) = a.e * b.b := z.1
      have z2 : IntKind.i64.wrap (a.f * b.d) = a.f * b.d := z.2.1
      have z3 : IntKind.i64.wrap (a.e * b.b + a.f * b.d) = a.e * b.b + a.f * b.d := z.2.2.1
      have zz := sum6 HOK.out.1.2.2.2.2.1 HOK.out.2.1.2.1 HOK.out.1.2.2.2.2.2 HOK.out.2.1.2.2.2.1 HOK.out.2.1.2.2.2.2.2
      have z4 : IntKind.i64.wrap (10000 * b.f) = 10000 * b.f := zz.1
      have z5 : IntKind.i64.wrap (a.e * b.b + a.f * b.d + 10000 * b.f) = a.e * b.b + a.f * b.d + 10000 * b.f := zz.2.1
      have HNr := Lib.hid (near_yes p.f (a.e * b.b + a.f * b.d + 10000 * b.f) U5 (by rw [← HP.out]; exact near6 _ _ _ _ _) zz.2.2)
      clear z zz
      go_wp2_with fail
      refine HNr.out.mono ?_
      rintro e w' ⟨rfl, rfl⟩
      clear HNr z1 z2 z3 z4 z5
      have z := sum4 HOK.out.2.2.1 HOK.out.1.1 HOK.out.2.2.2 HOK.out.1.2.2.1
      have z1 : IntKind.i64.wrap (x * a.a) = x * a.a := z.1
      have z2 : IntKind.i64.wrap (y * a.c) = y * a.c := z.2.1
      have z3 : IntKind.i64.wrap (x * a.a + y * a.c) = x * a.a + y * a.c := z.2.2.1
      have zz := sum6 HOK.out.2.2.1 HOK.out.1.1 HOK.out.2.2.2 HOK.out.1.2.2.1 HOK.out.1.2.2.2.2.1
      have z4 : IntKind.i64.wrap (10000 * a.e) = 10000 * a.e := zz.1
      have z5 : IntKind.i64.wrap (x * a.a + y * a.c + 10000 * a.e) = x * a.a + y * a.c + 10000 * a.e := zz.2.1
      have HNr := Lib.hid (near_yes u (x * a.a + y * a.c + 10000 * a.e) U5 (by rw [← HUV.out.1]; exact near6 _ _ _ _ _) zz.2.2)
      clear z zz
      go_wp2_with fail
      refine HNr.out.mono ?_
      rintro e w' ⟨rfl, rfl⟩
      clear HNr z1 z2 z3 z4 z5
      have z := sum4 HOK.out.2.2.1 HOK.out.1.2.1 HOK.out.2.2.2 HOK.out.1.2.2.2.1
      have z1 : IntKind.i64.wrap (x * a.b) = x * a.b := z.1
      have z2 : IntKind.i64.wrap (y * a.d) = y * a.d := z.2.1
      have z3 : IntKind.i64.wrap (x * a.b + y * a.d) = x * a.b + y * a.d := z.2.2.1
      have zz := sum6 HOK.out.2.2.1 HOK.out.1.2.1 HOK.out.2.2.2 HOK.out.1.2.2.2.1 HOK.out.1.2.2.2.2.2
      have z4 : IntKind.i64.wrap (10000 * a.f) = 10000 * a.f := zz.1
      have z5 : IntKind.i64.wrap (x * a.b + y * a.d + 10000 * a.f) = x * a.b + y * a.d + 10000 * a.f := zz.2.1
      have HNr := Lib.hid (near_yes v (x * a.b + y * a.d + 10000 * a.f) U5 (by rw [← HUV.out.2]; exact near6 _ _ _ _ _) zz.2.2)
      clear z zz
      go_wp2_with fail
      refine HNr.out.mono ?_
      rintro e w' ⟨rfl, rfl⟩
      clear HNr z1 z2 z3 z4 z5
      go_wp2_with fail
      go_ret
      exact ⟨rfl, HB.out⟩
end Go.Proofs.Ytghmchcoegidkaa
