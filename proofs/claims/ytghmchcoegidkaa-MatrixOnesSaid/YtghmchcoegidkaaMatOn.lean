/-
  MatrixOnes: composing with the identity changes nothing, the identity maps each point to itself, Read inverts Object.
-/
import Derived.Test.YtghmchcoegidkaaMatLv
import Derived.Deep.RegionHeld
import Derived.Deep.DeepCutAuto
namespace Go.Proofs.Ytghmchcoegidkaa
open Go.RowKit Fix Mat

theorem one_pt (x y : Int) : (inRange x = true ∧ inRange y = true ∧ appP oneM x y = (x, y) ∧ appX oneM x y = 0) ∨ ((inRange x && inRange y) = false ∧ appP oneM x y = (0, 0) ∧ appX oneM x y = 2) := by
  have h := app_one x y
  have e : appO oneM x y = (inRange x && inRange y) := by
    unfold appO
    rw [h.1, h.2, Mat.ok_one]
    cases inRange x <;> cases inRange y <;> rfl
  by_cases ho : (inRange x && inRange y) = true
  · have ho2 := ho
    simp only [Bool.and_eq_true] at ho2
    refine .inl ⟨ho2.1, ho2.2, ?_⟩
    unfold appP appX
    rw [e, if_pos ho, if_pos ho, h.1, h.2]
    exact ⟨rfl, rfl⟩
  · refine .inr ⟨Bool.eq_false_iff.2 ho, ?_⟩
    unfold appP appX
    rw [e, if_neg ho, if_neg ho]
    exact ⟨rfl, rfl⟩
theorem out_four {x y : Int} (h : (inRange x && inRange y) = false) : x < -1073741824 ∨ (¬ x < -1073741824 ∧ 1073741824 < x) ∨ (¬ x < -1073741824 ∧ ¬ 1073741824 < x ∧ y < -1073741824) ∨ (¬ x < -1073741824 ∧ ¬ 1073741824 < x ∧ ¬ y < -1073741824 ∧ 1073741824 < y) := by
  by_cases hx : inRange x = true
  · rw [hx, Bool.true_and] at h
    have := inRange_yes hx
    have := inRange_no (n := y) (by rw [h]; exact Bool.false_ne_true)
    omega
  · have := inRange_no hx
    omega

set_option maxRecDepth 100000 in
set_option maxHeartbeats 4000000 in
theorem ones_bad (m : Mx) (x y : Int) (w : World) (hm : ¬ okM m = true) :
    Calls Try.prog 4 #[mxV m, ptV x y] w fun e w' => e = .returned (.bool true) ∧ Below w.heap.size w w' := by
  unfold mxV ptV
  obtain ⟨N, hN⟩ : ∃ N, w.heap.size = N := ⟨_, rfl⟩
  obtain ⟨P, hP⟩ : ∃ P, N + 1 = P := ⟨_, rfl⟩
  obtain ⟨V, hV⟩ : ∃ V, (w.alloc (.cells #[.int .i64 m.a, .int .i64 m.b, .int .i64 m.c, .int .i64 m.d, .int .i64 m.e, .int .i64 m.f] 23)).alloc (.cells #[.int .i64 x, .int .i64 y] 25) = V := ⟨_, rfl⟩
  have hVs : V.heap.size = P + 1 := by rw [← hV]; simp [hN]; omega
  have La := Lib.hid (show Blk V N 23 #[.int .i64 m.a, .int .i64 m.b, .int .i64 m.c, .int .i64 m.d, .int .i64 m.e, .int .i64 m.f] by rw [← hV, ← hN]; exact (Blk.new w _ _).alloc _)
  have Lp := Lib.hid (show Blk V P 25 #[.int .i64 x, .int .i64 y] by
    rw [← hV]
    have := Blk.new (w.alloc (.cells #[.int .i64 m.a, .int .i64 m.b, .int .i64 m.c, .int .i64 m.d, .int .i64 m.e, .int .i64 m.f] 23)) 25 #[.int .i64 x, .int .i64 y]
    rw [World.size_alloc, hN, hP] at this
    exact this)
  have HB := Lib.hid (show Below N w V by rw [← hV, ← hN]; exact ((Below.refl _ w).alloc (Nat.le_refl _) _).alloc (by simp) _)
  have HS := Lib.hid (show N ≤ V.heap.size by omega)
  have HCk := Lib.hid (fun W : World => check_any m W)
  unfold mxV at HCk
  have HC2 := Lib.hid (chk_no hm)
  rw [hN]
  go_enter Try.func4, Try.ntmps4
  go_upto_region 1 with fail
  clear hV hN hP hVs hm
  go_wp2_with fail
  refine (matLives V).mono ?_
  rintro e U1 ⟨rfl, hb⟩
  have La := Lib.hid (La.out.below hb La.out.lt)
  have Lp := Lib.hid (Lp.out.below hb Lp.out.lt)
  have HB := Lib.hid (HB.out.trans (hb.mono HS.out))
  have HS := Lib.hid (Nat.le_trans HS.out hb.size)
  clear hb
  obtain ⟨ac0, ac1, ac2, ac3, ac4, ac5⟩ := (six_cells La.out).1
  go_wp2_with fail
  refine (HCk.out U1).mono ?_
  rintro e U2 ⟨rfl, hb⟩
  have La := Lib.hid (La.out.below hb La.out.lt)
  have Lp := Lib.hid (Lp.out.below hb Lp.out.lt)
  have HB := Lib.hid (HB.out.trans (hb.mono HS.out))
  have HS := Lib.hid (Nat.le_trans HS.out hb.size)
  clear hb
  clear ac0 ac1 ac2 ac3 ac4 ac5
  rw [HC2.out]
  go_wp2_with fail
  go_ret
  exact ⟨rfl, HB.out⟩

set_option maxRecDepth 100000 in
set_option maxHeartbeats 16000000 in
theorem ones_ok (m : Mx) (x y u v r : Int) (w : World) (hm : okM m = true) (hp : appP oneM x y = (u, v)) (hr : appX oneM x y = r) (hcase : (r = 0 ∧ u = x ∧ v = y ∧ inRange x = true ∧ inRange y = true) ∨ (r = 2 ∧ (inRange x && inRange y) = false)) :
    Calls Try.prog 4 #[mxV m, ptV x y] w fun e w' => e = .returned (.bool true) ∧ Below w.heap.size w w' := by
  unfold mxV ptV
  obtain ⟨N, hN⟩ : ∃ N, w.heap.size = N := ⟨_, rfl⟩
  obtain ⟨P, hP⟩ : ∃ P, N + 1 = P := ⟨_, rfl⟩
  obtain ⟨V, hV⟩ : ∃ V, (w.alloc (.cells #[.int .i64 m.a, .int .i64 m.b, .int .i64 m.c, .int .i64 m.d, .int .i64 m.e, .int .i64 m.f] 23)).alloc (.cells #[.int .i64 x, .int .i64 y] 25) = V := ⟨_, rfl⟩
  have hVs : V.heap.size = P + 1 := by rw [← hV]; simp [hN]; omega
  have La := Lib.hid (show Blk V N 23 #[.int .i64 m.a, .int .i64 m.b, .int .i64 m.c, .int .i64 m.d, .int .i64 m.e, .int .i64 m.f] by rw [← hV, ← hN]; exact (Blk.new w _ _).alloc _)
  have Lp := Lib.hid (show Blk V P 25 #[.int .i64 x, .int .i64 y] by
    rw [← hV]
    have := Blk.new (w.alloc (.cells #[.int .i64 m.a, .int .i64 m.b, .int .i64 m.c, .int .i64 m.d, .int .i64 m.e, .int .i64 m.f] 23)) 25 #[.int .i64 x, .int .i64 y]
    rw [World.size_alloc, hN, hP] at this
    exact this)
  have HB := Lib.hid (show Below N w V by rw [← hV, ← hN]; exact ((Below.refl _ w).alloc (Nat.le_refl _) _).alloc (by simp) _)
  have HS := Lib.hid (show N ≤ V.heap.size by omega)
  have HCk := Lib.hid (fun W : World => check_any m W)
  unfold mxV at HCk
  have HC2 := Lib.hid (chk_yes hm)
  have HCase := Lib.hid hcase
  have K0 : Hid (∀ W : World, Calls Try.prog 21 #[] W fun e w' => e = .returned (.agg #[.int .i64 10000, .int .i64 0, .int .i64 0, .int .i64 10000, .int .i64 0, .int .i64 0]) ∧ Below W.heap.size W w') := Lib.hid (fun W => one_any W)
  have K1 : Hid (∀ W : World, Calls Try.prog 11 #[.agg #[.int .i64 m.a, .int .i64 m.b, .int .i64 m.c, .int .i64 m.d, .int .i64 m.e, .int .i64 m.f], .agg #[.int .i64 10000, .int .i64 0, .int .i64 0, .int .i64 10000, .int .i64 0, .int .i64 0]] W fun e w' => e = .returned (.tuple #[.agg #[.int .i64 m.a, .int .i64 m.b, .int .i64 m.c, .int .i64 m.d, .int .i64 m.e, .int .i64 m.f], .int .i64 0]) ∧ Below W.heap.size W w') := Lib.hid (fun W => mul_mx m oneM m 0 W (by unfold mulQ; rw [if_pos (mulO_oneR hm), mul_oneR]) (by unfold mulX; rw [if_pos (mulO_oneR hm)]))
  have K2 : Hid (∀ W : World, Calls Try.prog 11 #[.agg #[.int .i64 10000, .int .i64 0, .int .i64 0, .int .i64 10000, .int .i64 0, .int .i64 0], .agg #[.int .i64 m.a, .int .i64 m.b, .int .i64 m.c, .int .i64 m.d, .int .i64 m.e, .int .i64 m.f]] W fun e w' => e = .returned (.tuple #[.agg #[.int .i64 m.a, .int .i64 m.b, .int .i64 m.c, .int .i64 m.d, .int .i64 m.e, .int .i64 m.f], .int .i64 0]) ∧ Below W.heap.size W w') := Lib.hid (fun W => mul_mx oneM m m 0 W (by unfold mulQ; rw [if_pos (mulO_oneL hm), mul_oneL]) (by unfold mulX; rw [if_pos (mulO_oneL hm)]))
  have K3 : Hid (∀ W : World, Calls Try.prog 13 #[.agg #[.int .i64 10000, .int .i64 0, .int .i64 0, .int .i64 10000, .int .i64 0, .int .i64 0], .agg #[.int .i64 x, .int .i64 y]] W fun e w' => e = .returned (.tuple #[.agg #[.int .i64 u, .int .i64 v], .int .i64 r]) ∧ Below W.heap.size W w') := Lib.hid (fun W => apply_pt oneM x y u v r W hp hr)
  have K4 := Lib.hid (fun W : World => object_any m W hm)
  unfold mxV at K4
  have HRd := Lib.hid (read_obj hm)
  rw [hN]
  go_enter Try.func4, Try.ntmps4
  go_upto_region 1 with fail
  clear hV hN hP hVs hm hp hr hcase
  go_wp2_with fail
  refine (matLives V).mono ?_
  rintro e U1 ⟨rfl, hb⟩
  have La := Lib.hid (La.out.below hb La.out.lt)
  have Lp := Lib.hid (Lp.out.below hb Lp.out.lt)
  have HB := Lib.hid (HB.out.trans (hb.mono HS.out))
  have HS := Lib.hid (Nat.le_trans HS.out hb.size)
  clear hb
  obtain ⟨ac0, ac1, ac2, ac3, ac4, ac5⟩ := (six_cells La.out).1
  go_wp2_with fail
  refine (HCk.out U1).mono ?_
  rintro e U2 ⟨rfl, hb⟩
  have La := Lib.hid (La.out.below hb La.out.lt)
  have Lp := Lib.hid (Lp.out.below hb Lp.out.lt)
  have HB := Lib.hid (HB.out.trans (hb.mono HS.out))
  have HS := Lib.hid (Nat.le_trans HS.out hb.size)
  clear hb
  clear ac0 ac1 ac2 ac3 ac4 ac5
  rw [HC2.out]
  go_upto_region 5 with fail
  go_cut [5, 6] from 18 to 23 (fun a5 a6 wx => ∃ G, a5 = .pointer (some ⟨G, 0, none⟩) ∧ a6 = .int .i64 0 ∧ Hid (Blk wx G 23 #[.int .i64 m.a, .int .i64 m.b, .int .i64 m.c, .int .i64 m.d, .int .i64 m.e, .int .i64 m.f] ∧ Below N w wx ∧ N ≤ wx.heap.size ∧ Blk wx N 23 #[.int .i64 m.a, .int .i64 m.b, .int .i64 m.c, .int .i64 m.d, .int .i64 m.e, .int .i64 m.f] ∧ Blk wx P 25 #[.int .i64 x, .int .i64 y]))
  case first =>
    obtain ⟨Z, hZ⟩ : ∃ Z, U2.heap.size = Z := ⟨_, rfl⟩
    have HZ : Hid (Z ≤ U2.heap.size) := Lib.hid (Nat.le_of_eq hZ.symm)
    have HNZ : Hid (N ≤ Z) := Lib.hid (by rw [← hZ]; exact HS.out)
    have Ka := Lib.hid (show N < Z by rw [← hZ]; exact La.out.lt)
    have Kp := Lib.hid (show P < Z by rw [← hZ]; exact Lp.out.lt)
    have HSv : Hid (∀ W2, Below Z U2 W2 → (W2.cell? ⟨N, 0, none⟩ = some (.int .i64 m.a) ∧ W2.cell? ⟨N, 1, none⟩ = some (.int .i64 m.b) ∧ W2.cell? ⟨N, 2, none⟩ = some (.int .i64 m.c) ∧ W2.cell? ⟨N, 3, none⟩ = some (.int .i64 m.d) ∧ W2.cell? ⟨N, 4, none⟩ = some (.int .i64 m.e) ∧ W2.cell? ⟨N, 5, none⟩ = some (.int .i64 m.f))) := Lib.hid (fun W2 hb2 => by
      obtain ⟨⟨s0, s1, s2, s3, s4, s5⟩, _⟩ := six_cells (La.out.below hb2 Ka.out)
      exact ⟨s0, s1, s2, s3, s4, s5⟩)
    clear hZ
    refine wp_region_held_drew (S := fun W2 => W2.cell? ⟨N, 0, none⟩ = some (.int .i64 m.a) ∧ W2.cell? ⟨N, 1, none⟩ = some (.int .i64 m.b) ∧ W2.cell? ⟨N, 2, none⟩ = some (.int .i64 m.c) ∧ W2.cell? ⟨N, 3, none⟩ = some (.int .i64 m.d) ∧ W2.cell? ⟨N, 4, none⟩ = some (.int .i64 m.e) ∧ W2.cell? ⟨N, 5, none⟩ = some (.int .i64 m.f)) (by kernel_rfl) (HSv.out _ ((Below.refl _ U2).drew)) (fun hHeld => ?_)
    obtain ⟨V0, hU⟩ : ∃ U, U2.drew = U := ⟨_, rfl⟩
    have HV0 : Hid (Below Z U2 V0) := Lib.hid (by rw [← hU]; exact (Below.refl _ U2).drew)
    rw [hU] at hHeld
    rw [hU]
    clear hU
    refine wpAnyH_take (i := 0) (v := ?_) rfl (by kernel_rfl) (by kernel_rfl) (by kernel_rfl) (fun _ _ _ h => h) (Or.inl ⟨by rfl, ?_⟩) hHeld ?_
    rotate_left
    · intro w hSw
      obtain ⟨s0, s1, s2, s3, s4, s5⟩ := hSw
      go_simp
      first | done | with_reducible rfl
    try simp only [Act.put, List.setIfInBounds_toArray]
    refine wpAnyH_ready (rs := [1, 6]) (by kernel_rfl) (by simp) ?_
    refine AllReadyH.cons rfl (fun K hK => ?_) ?_
    · go_simp
      refine (K0.out V0).mono ?_
      rintro e V1 ⟨rfl, hb⟩
      have HV1 : Hid (Below Z U2 V1) := Lib.hid (HV0.out.trans (hb.mono (Nat.le_trans HZ.out HV0.out.size)))
      refine hK.out _ _ (HSv.out _ HV1.out) (fun hHeld => ?_)
      clear hb hK K
      refine wpAnyH_ready (rs := [2, 6]) (by kernel_rfl) (by simp) ?_
      refine AllReadyH.cons rfl (fun K hK => ?_) ?_
      · go_simp
        refine (K1.out V1).mono ?_
        rintro e V2 ⟨rfl, hb⟩
        have HV2 : Hid (Below Z U2 V2) := Lib.hid (HV1.out.trans (hb.mono (Nat.le_trans HZ.out HV1.out.size)))
        refine hK.out _ _ (HSv.out _ HV2.out) (fun hHeld => ?_)
        clear hb hK K
        refine wpAnyH_take (i := 3) (v := ?_) rfl (by kernel_rfl) (by kernel_rfl) (by kernel_rfl) (fun _ _ _ h => h) (Or.inl ⟨by rfl, ?_⟩) hHeld ?_
        rotate_left
        · intro w hSw
          go_simp
          first | done | with_reducible rfl
        try simp only [Act.put, List.setIfInBounds_toArray]
        refine wpAnyH_take (i := 4) (v := ?_) rfl (by kernel_rfl) (by kernel_rfl) (by kernel_rfl) (fun _ _ _ h => h) (Or.inl ⟨by rfl, ?_⟩) hHeld ?_
        rotate_left
        · intro w hSw
          go_simp
          first | done | with_reducible rfl
        try simp only [Act.put]
        refine wpAnyH_take (i := 5) (v := ?_) rfl (by kernel_rfl) (by kernel_rfl) (by kernel_rfl) (fun _ _ _ h => h) (Or.inl ⟨by rfl, ?_⟩) hHeld ?_
        rotate_left
        · intro w hSw
          go_simp
          first | done | with_reducible rfl
        try simp only [Act.put]
        refine wpAnyH_ready (rs := [6]) (by kernel_rfl) (by simp) ?_
        refine AllReadyH.cons rfl (fun K hK => ?_) ?_
        · go_simp
          refine hK.out _ _ (HSv.out _ (HV2.out.alloc (Nat.le_trans HZ.out HV2.out.size) _)) (fun hHeld => ?_)
          clear hK K
          obtain ⟨G3, hG⟩ : ∃ G, V2.heap.size = G := ⟨_, rfl⟩
          obtain ⟨V3, hU⟩ : ∃ X, V2.alloc (.cells #[.int .i64 0, .int .i64 0, .int .i64 0, .int .i64 0, .int .i64 0, .int .i64 0] 23) = X := ⟨_, rfl⟩
          have HV3 : Hid (Below Z U2 V3) := Lib.hid (by rw [← hU]; exact HV2.out.alloc (Nat.le_trans HZ.out HV2.out.size) _)
          have HR3 : Hid (Blk V3 G3 23 #[.int .i64 0, .int .i64 0, .int .i64 0, .int .i64 0, .int .i64 0, .int .i64 0]) := Lib.hid (by rw [← hU, ← hG]; exact Blk.new V2 _ _)
          have HG3 : Hid (Z ≤ G3) := Lib.hid (by rw [← hG]; exact Nat.le_trans HZ.out HV2.out.size)
          rw [hU] at hHeld
          rw [hU, hG]
          clear hU hG
          refine wpAnyH_ready (rs := [7]) (by kernel_rfl) (by simp) ?_
          refine AllReadyH.cons rfl (fun K hK => ?_) ?_
          · have HGG := HG3.out
            obtain ⟨⟨c0, c1, c2, c3, c4, c5⟩, ⟨f0, f1, f2, f3, f4, f5⟩⟩ := six_cells HR3.out
            have HEnd : Hid (Blk ((((((V3.setCell ⟨G3, 0, none⟩ (.int .i64 m.a)).setCell ⟨G3, 1, none⟩ (.int .i64 m.b)).setCell ⟨G3, 2, none⟩ (.int .i64 m.c)).setCell ⟨G3, 3, none⟩ (.int .i64 m.d)).setCell ⟨G3, 4, none⟩ (.int .i64 m.e)).setCell ⟨G3, 5, none⟩ (.int .i64 m.f)) G3 23 #[.int .i64 m.a, .int .i64 m.b, .int .i64 m.c, .int .i64 m.d, .int .i64 m.e, .int .i64 m.f] ∧ Below N w ((((((V3.setCell ⟨G3, 0, none⟩ (.int .i64 m.a)).setCell ⟨G3, 1, none⟩ (.int .i64 m.b)).setCell ⟨G3, 2, none⟩ (.int .i64 m.c)).setCell ⟨G3, 3, none⟩ (.int .i64 m.d)).setCell ⟨G3, 4, none⟩ (.int .i64 m.e)).setCell ⟨G3, 5, none⟩ (.int .i64 m.f)) ∧ N ≤ ((((((V3.setCell ⟨G3, 0, none⟩ (.int .i64 m.a)).setCell ⟨G3, 1, none⟩ (.int .i64 m.b)).setCell ⟨G3, 2, none⟩ (.int .i64 m.c)).setCell ⟨G3, 3, none⟩ (.int .i64 m.d)).setCell ⟨G3, 4, none⟩ (.int .i64 m.e)).setCell ⟨G3, 5, none⟩ (.int .i64 m.f)).heap.size ∧ Blk ((((((V3.setCell ⟨G3, 0, none⟩ (.int .i64 m.a)).setCell ⟨G3, 1, none⟩ (.int .i64 m.b)).setCell ⟨G3, 2, none⟩ (.int .i64 m.c)).setCell ⟨G3, 3, none⟩ (.int .i64 m.d)).setCell ⟨G3, 4, none⟩ (.int .i64 m.e)).setCell ⟨G3, 5, none⟩ (.int .i64 m.f)) N 23 #[.int .i64 m.a, .int .i64 m.b, .int .i64 m.c, .int .i64 m.d, .int .i64 m.e, .int .i64 m.f] ∧ Blk ((((((V3.setCell ⟨G3, 0, none⟩ (.int .i64 m.a)).setCell ⟨G3, 1, none⟩ (.int .i64 m.b)).setCell ⟨G3, 2, none⟩ (.int .i64 m.c)).setCell ⟨G3, 3, none⟩ (.int .i64 m.d)).setCell ⟨G3, 4, none⟩ (.int .i64 m.e)).setCell ⟨G3, 5, none⟩ (.int .i64 m.f)) P 25 #[.int .i64 x, .int .i64 y]) := Lib.hid ⟨((((((HR3.out.set_ 0 _).set_ 1 _).set_ 2 _).set_ 3 _).set_ 4 _).set_ 5 _), ((((((HB.out.trans (HV3.out.mono HNZ.out)).setCell (p := ⟨G3, 0, none⟩) (Nat.le_trans HNZ.out HGG) _).setCell (p := ⟨G3, 1, none⟩) (Nat.le_trans HNZ.out HGG) _).setCell (p := ⟨G3, 2, none⟩) (Nat.le_trans HNZ.out HGG) _).setCell (p := ⟨G3, 3, none⟩) (Nat.le_trans HNZ.out HGG) _).setCell (p := ⟨G3, 4, none⟩) (Nat.le_trans HNZ.out HGG) _).setCell (p := ⟨G3, 5, none⟩) (Nat.le_trans HNZ.out HGG) _, Nat.le_trans HNZ.out (Nat.le_trans HGG (Nat.le_of_lt (((((((HR3.out.set_ 0 _).set_ 1 _).set_ 2 _).set_ 3 _).set_ 4 _).set_ 5 _)).lt)), (((((((La.out.below HV3.out Ka.out).far (p := ⟨G3, 0, none⟩) (show N ≠ G3 by have := Ka.out; omega) _).far (p := ⟨G3, 1, none⟩) (show N ≠ G3 by have := Ka.out; omega) _).far (p := ⟨G3, 2, none⟩) (show N ≠ G3 by have := Ka.out; omega) _).far (p := ⟨G3, 3, none⟩) (show N ≠ G3 by have := Ka.out; omega) _).far (p := ⟨G3, 4, none⟩) (show N ≠ G3 by have := Ka.out; omega) _).far (p := ⟨G3, 5, none⟩) (show N ≠ G3 by have := Ka.out; omega) _), (((((((Lp.out.below HV3.out Kp.out).far (p := ⟨G3, 0, none⟩) (show P ≠ G3 by have := Kp.out; omega) _).far (p := ⟨G3, 1, none⟩) (show P ≠ G3 by have := Kp.out; omega) _).far (p := ⟨G3, 2, none⟩) (show P ≠ G3 by have := Kp.out; omega) _).far (p := ⟨G3, 3, none⟩) (show P ≠ G3 by have := Kp.out; omega) _).far (p := ⟨G3, 4, none⟩) (show P ≠ G3 by have := Kp.out; omega) _).far (p := ⟨G3, 5, none⟩) (show P ≠ G3 by have := Kp.out; omega) _)⟩
            have hS2 : (fun W2 : World => W2.cell? ⟨N, 0, none⟩ = some (.int .i64 m.a) ∧ W2.cell? ⟨N, 1, none⟩ = some (.int .i64 m.b) ∧ W2.cell? ⟨N, 2, none⟩ = some (.int .i64 m.c) ∧ W2.cell? ⟨N, 3, none⟩ = some (.int .i64 m.d) ∧ W2.cell? ⟨N, 4, none⟩ = some (.int .i64 m.e) ∧ W2.cell? ⟨N, 5, none⟩ = some (.int .i64 m.f)) ((((((V3.setCell ⟨G3, 0, none⟩ (.int .i64 m.a)).setCell ⟨G3, 1, none⟩ (.int .i64 m.b)).setCell ⟨G3, 2, none⟩ (.int .i64 m.c)).setCell ⟨G3, 3, none⟩ (.int .i64 m.d)).setCell ⟨G3, 4, none⟩ (.int .i64 m.e)).setCell ⟨G3, 5, none⟩ (.int .i64 m.f)) := by
              obtain ⟨⟨s0, s1, s2, s3, s4, s5⟩, _⟩ := six_cells (HEnd.out.2.2.2.1)
              exact ⟨s0, s1, s2, s3, s4, s5⟩
            have HS2 := Lib.hid hS2
            clear hS2 HGG
            go_simp
            refine hK.out _ _ HS2.out (fun hHeld => ?_)
            clear hK K
            refine wpAnyH_take (i := 8) (v := ?_) rfl (by kernel_rfl) (by kernel_rfl) (by kernel_rfl) (fun _ _ _ h => h) (Or.inl ⟨by rfl, ?_⟩) hHeld ?_
            rotate_left
            · intro w hSw
              go_simp
              first | done | with_reducible rfl
            try simp only [Act.put, List.setIfInBounds_toArray]
            refine wpAnyH_done (by kernel_rfl) ?_ _
            go_wp2_with fail
            go_meet
            exact ⟨G3, rfl, rfl, HEnd⟩
          exact AllReadyH.nil
        exact AllReadyH.nil
      refine AllReadyH.cons rfl (fun K hK => ?_) ?_
      · go_simp
        refine hK.out _ _ (HSv.out _ (HV1.out.alloc (Nat.le_trans HZ.out HV1.out.size) _)) (fun hHeld => ?_)
        clear hK K
        obtain ⟨G5, hG⟩ : ∃ G, V1.heap.size = G := ⟨_, rfl⟩
        obtain ⟨V5, hU⟩ : ∃ X, V1.alloc (.cells #[.int .i64 0, .int .i64 0, .int .i64 0, .int .i64 0, .int .i64 0, .int .i64 0] 23) = X := ⟨_, rfl⟩
        have HV5 : Hid (Below Z U2 V5) := Lib.hid (by rw [← hU]; exact HV1.out.alloc (Nat.le_trans HZ.out HV1.out.size) _)
        have HR5 : Hid (Blk V5 G5 23 #[.int .i64 0, .int .i64 0, .int .i64 0, .int .i64 0, .int .i64 0, .int .i64 0]) := Lib.hid (by rw [← hU, ← hG]; exact Blk.new V1 _ _)
        have HG5 : Hid (Z ≤ G5) := Lib.hid (by rw [← hG]; exact Nat.le_trans HZ.out HV1.out.size)
        rw [hU] at hHeld
        rw [hU, hG]
        clear hU hG
        refine wpAnyH_ready (rs := [2]) (by kernel_rfl) (by simp) ?_
        refine AllReadyH.cons rfl (fun K hK => ?_) ?_
        · go_simp
          refine (K1.out V5).mono ?_
          rintro e V6 ⟨rfl, hb⟩
          have HV6 : Hid (Below Z U2 V6) := Lib.hid (HV5.out.trans (hb.mono (Nat.le_trans HZ.out HV5.out.size)))
          have HR6 := Lib.hid (HR5.out.below hb HR5.out.lt)
          refine hK.out _ _ (HSv.out _ HV6.out) (fun hHeld => ?_)
          clear hb hK K
          refine wpAnyH_take (i := 3) (v := ?_) rfl (by kernel_rfl) (by kernel_rfl) (by kernel_rfl) (fun _ _ _ h => h) (Or.inl ⟨by rfl, ?_⟩) hHeld ?_
          rotate_left
          · intro w hSw
            go_simp
            first | done | with_reducible rfl
          try simp only [Act.put, List.setIfInBounds_toArray]
          refine wpAnyH_take (i := 4) (v := ?_) rfl (by kernel_rfl) (by kernel_rfl) (by kernel_rfl) (fun _ _ _ h => h) (Or.inl ⟨by rfl, ?_⟩) hHeld ?_
          rotate_left
          · intro w hSw
            go_simp
            first | done | with_reducible rfl
          try simp only [Act.put]
          refine wpAnyH_take (i := 5) (v := ?_) rfl (by kernel_rfl) (by kernel_rfl) (by kernel_rfl) (fun _ _ _ h => h) (Or.inl ⟨by rfl, ?_⟩) hHeld ?_
          rotate_left
          · intro w hSw
            go_simp
            first | done | with_reducible rfl
          try simp only [Act.put]
          refine wpAnyH_ready (rs := [7]) (by kernel_rfl) (by simp) ?_
          refine AllReadyH.cons rfl (fun K hK => ?_) ?_
          · have HGG := HG5.out
            obtain ⟨⟨c0, c1, c2, c3, c4, c5⟩, ⟨f0, f1, f2, f3, f4, f5⟩⟩ := six_cells HR6.out
            have HEnd : Hid (Blk ((((((V6.setCell ⟨G5, 0, none⟩ (.int .i64 m.a)).setCell ⟨G5, 1, none⟩ (.int .i64 m.b)).setCell ⟨G5, 2, none⟩ (.int .i64 m.c)).setCell ⟨G5, 3, none⟩ (.int .i64 m.d)).setCell ⟨G5, 4, none⟩ (.int .i64 m.e)).setCell ⟨G5, 5, none⟩ (.int .i64 m.f)) G5 23 #[.int .i64 m.a, .int .i64 m.b, .int .i64 m.c, .int .i64 m.d, .int .i64 m.e, .int .i64 m.f] ∧ Below N w ((((((V6.setCell ⟨G5, 0, none⟩ (.int .i64 m.a)).setCell ⟨G5, 1, none⟩ (.int .i64 m.b)).setCell ⟨G5, 2, none⟩ (.int .i64 m.c)).setCell ⟨G5, 3, none⟩ (.int .i64 m.d)).setCell ⟨G5, 4, none⟩ (.int .i64 m.e)).setCell ⟨G5, 5, none⟩ (.int .i64 m.f)) ∧ N ≤ ((((((V6.setCell ⟨G5, 0, none⟩ (.int .i64 m.a)).setCell ⟨G5, 1, none⟩ (.int .i64 m.b)).setCell ⟨G5, 2, none⟩ (.int .i64 m.c)).setCell ⟨G5, 3, none⟩ (.int .i64 m.d)).setCell ⟨G5, 4, none⟩ (.int .i64 m.e)).setCell ⟨G5, 5, none⟩ (.int .i64 m.f)).heap.size ∧ Blk ((((((V6.setCell ⟨G5, 0, none⟩ (.int .i64 m.a)).setCell ⟨G5, 1, none⟩ (.int .i64 m.b)).setCell ⟨G5, 2, none⟩ (.int .i64 m.c)).setCell ⟨G5, 3, none⟩ (.int .i64 m.d)).setCell ⟨G5, 4, none⟩ (.int .i64 m.e)).setCell ⟨G5, 5, none⟩ (.int .i64 m.f)) N 23 #[.int .i64 m.a, .int .i64 m.b, .int .i64 m.c, .int .i64 m.d, .int .i64 m.e, .int .i64 m.f] ∧ Blk ((((((V6.setCell ⟨G5, 0, none⟩ (.int .i64 m.a)).setCell ⟨G5, 1, none⟩ (.int .i64 m.b)).setCell ⟨G5, 2, none⟩ (.int .i64 m.c)).setCell ⟨G5, 3, none⟩ (.int .i64 m.d)).setCell ⟨G5, 4, none⟩ (.int .i64 m.e)).setCell ⟨G5, 5, none⟩ (.int .i64 m.f)) P 25 #[.int .i64 x, .int .i64 y]) := Lib.hid ⟨((((((HR6.out.set_ 0 _).set_ 1 _).set_ 2 _).set_ 3 _).set_ 4 _).set_ 5 _), ((((((HB.out.trans (HV6.out.mono HNZ.out)).setCell (p := ⟨G5, 0, none⟩) (Nat.le_trans HNZ.out HGG) _).setCell (p := ⟨G5, 1, none⟩) (Nat.le_trans HNZ.out HGG) _).setCell (p := ⟨G5, 2, none⟩) (Nat.le_trans HNZ.out HGG) _).setCell (p := ⟨G5, 3, none⟩) (Nat.le_trans HNZ.out HGG) _).setCell (p := ⟨G5, 4, none⟩) (Nat.le_trans HNZ.out HGG) _).setCell (p := ⟨G5, 5, none⟩) (Nat.le_trans HNZ.out HGG) _, Nat.le_trans HNZ.out (Nat.le_trans HGG (Nat.le_of_lt (((((((HR6.out.set_ 0 _).set_ 1 _).set_ 2 _).set_ 3 _).set_ 4 _).set_ 5 _)).lt)), (((((((La.out.below HV6.out Ka.out).far (p := ⟨G5, 0, none⟩) (show N ≠ G5 by have := Ka.out; omega) _).far (p := ⟨G5, 1, none⟩) (show N ≠ G5 by have := Ka.out; omega) _).far (p := ⟨G5, 2, none⟩) (show N ≠ G5 by have := Ka.out; omega) _).far (p := ⟨G5, 3, none⟩) (show N ≠ G5 by have := Ka.out; omega) _).far (p := ⟨G5, 4, none⟩) (show N ≠ G5 by have := Ka.out; omega) _).far (p := ⟨G5, 5, none⟩) (show N ≠ G5 by have := Ka.out; omega) _), (((((((Lp.out.below HV6.out Kp.out).far (p := ⟨G5, 0, none⟩) (show P ≠ G5 by have := Kp.out; omega) _).far (p := ⟨G5, 1, none⟩) (show P ≠ G5 by have := Kp.out; omega) _).far (p := ⟨G5, 2, none⟩) (show P ≠ G5 by have := Kp.out; omega) _).far (p := ⟨G5, 3, none⟩) (show P ≠ G5 by have := Kp.out; omega) _).far (p := ⟨G5, 4, none⟩) (show P ≠ G5 by have := Kp.out; omega) _).far (p := ⟨G5, 5, none⟩) (show P ≠ G5 by have := Kp.out; omega) _)⟩
            have hS2 : (fun W2 : World => W2.cell? ⟨N, 0, none⟩ = some (.int .i64 m.a) ∧ W2.cell? ⟨N, 1, none⟩ = some (.int .i64 m.b) ∧ W2.cell? ⟨N, 2, none⟩ = some (.int .i64 m.c) ∧ W2.cell? ⟨N, 3, none⟩ = some (.int .i64 m.d) ∧ W2.cell? ⟨N, 4, none⟩ = some (.int .i64 m.e) ∧ W2.cell? ⟨N, 5, none⟩ = some (.int .i64 m.f)) ((((((V6.setCell ⟨G5, 0, none⟩ (.int .i64 m.a)).setCell ⟨G5, 1, none⟩ (.int .i64 m.b)).setCell ⟨G5, 2, none⟩ (.int .i64 m.c)).setCell ⟨G5, 3, none⟩ (.int .i64 m.d)).setCell ⟨G5, 4, none⟩ (.int .i64 m.e)).setCell ⟨G5, 5, none⟩ (.int .i64 m.f)) := by
              obtain ⟨⟨s0, s1, s2, s3, s4, s5⟩, _⟩ := six_cells (HEnd.out.2.2.2.1)
              exact ⟨s0, s1, s2, s3, s4, s5⟩
            have HS2 := Lib.hid hS2
            clear hS2 HGG
            go_simp
            refine hK.out _ _ HS2.out (fun hHeld => ?_)
            clear hK K
            refine wpAnyH_take (i := 8) (v := ?_) rfl (by kernel_rfl) (by kernel_rfl) (by kernel_rfl) (fun _ _ _ h => h) (Or.inl ⟨by rfl, ?_⟩) hHeld ?_
            rotate_left
            · intro w hSw
              go_simp
              first | done | with_reducible rfl
            try simp only [Act.put, List.setIfInBounds_toArray]
            refine wpAnyH_done (by kernel_rfl) ?_ _
            go_wp2_with fail
            go_meet
            exact ⟨G5, rfl, rfl, HEnd⟩
          exact AllReadyH.nil
        exact AllReadyH.nil
      exact AllReadyH.nil
    refine AllReadyH.cons rfl (fun K hK => ?_) ?_
    · go_simp
      refine hK.out _ _ (HSv.out _ (HV0.out.alloc (Nat.le_trans HZ.out HV0.out.size) _)) (fun hHeld => ?_)
      clear hK K
      obtain ⟨G8, hG⟩ : ∃ G, V0.heap.size = G := ⟨_, rfl⟩
      obtain ⟨V8, hU⟩ : ∃ X, V0.alloc (.cells #[.int .i64 0, .int .i64 0, .int .i64 0, .int .i64 0, .int .i64 0, .int .i64 0] 23) = X := ⟨_, rfl⟩
      have HV8 : Hid (Below Z U2 V8) := Lib.hid (by rw [← hU]; exact HV0.out.alloc (Nat.le_trans HZ.out HV0.out.size) _)
      have HR8 : Hid (Blk V8 G8 23 #[.int .i64 0, .int .i64 0, .int .i64 0, .int .i64 0, .int .i64 0, .int .i64 0]) := Lib.hid (by rw [← hU, ← hG]; exact Blk.new V0 _ _)
      have HG8 : Hid (Z ≤ G8) := Lib.hid (by rw [← hG]; exact Nat.le_trans HZ.out HV0.out.size)
      rw [hU] at hHeld
      rw [hU, hG]
      clear hU hG
      refine wpAnyH_ready (rs := [1]) (by kernel_rfl) (by simp) ?_
      refine AllReadyH.cons rfl (fun K hK => ?_) ?_
      · go_simp
        refine (K0.out V8).mono ?_
        rintro e V9 ⟨rfl, hb⟩
        have HV9 : Hid (Below Z U2 V9) := Lib.hid (HV8.out.trans (hb.mono (Nat.le_trans HZ.out HV8.out.size)))
        have HR9 := Lib.hid (HR8.out.below hb HR8.out.lt)
        refine hK.out _ _ (HSv.out _ HV9.out) (fun hHeld => ?_)
        clear hb hK K
        refine wpAnyH_ready (rs := [2]) (by kernel_rfl) (by simp) ?_
        refine AllReadyH.cons rfl (fun K hK => ?_) ?_
        · go_simp
          refine (K1.out V9).mono ?_
          rintro e V10 ⟨rfl, hb⟩
          have HV10 : Hid (Below Z U2 V10) := Lib.hid (HV9.out.trans (hb.mono (Nat.le_trans HZ.out HV9.out.size)))
          have HR10 := Lib.hid (HR9.out.below hb HR9.out.lt)
          refine hK.out _ _ (HSv.out _ HV10.out) (fun hHeld => ?_)
          clear hb hK K
          refine wpAnyH_take (i := 3) (v := ?_) rfl (by kernel_rfl) (by kernel_rfl) (by kernel_rfl) (fun _ _ _ h => h) (Or.inl ⟨by rfl, ?_⟩) hHeld ?_
          rotate_left
          · intro w hSw
            go_simp
            first | done | with_reducible rfl
          try simp only [Act.put, List.setIfInBounds_toArray]
          refine wpAnyH_take (i := 4) (v := ?_) rfl (by kernel_rfl) (by kernel_rfl) (by kernel_rfl) (fun _ _ _ h => h) (Or.inl ⟨by rfl, ?_⟩) hHeld ?_
          rotate_left
          · intro w hSw
            go_simp
            first | done | with_reducible rfl
          try simp only [Act.put]
          refine wpAnyH_take (i := 5) (v := ?_) rfl (by kernel_rfl) (by kernel_rfl) (by kernel_rfl) (fun _ _ _ h => h) (Or.inl ⟨by rfl, ?_⟩) hHeld ?_
          rotate_left
          · intro w hSw
            go_simp
            first | done | with_reducible rfl
          try simp only [Act.put]
          refine wpAnyH_ready (rs := [7]) (by kernel_rfl) (by simp) ?_
          refine AllReadyH.cons rfl (fun K hK => ?_) ?_
          · have HGG := HG8.out
            obtain ⟨⟨c0, c1, c2, c3, c4, c5⟩, ⟨f0, f1, f2, f3, f4, f5⟩⟩ := six_cells HR10.out
            have HEnd : Hid (Blk ((((((V10.setCell ⟨G8, 0, none⟩ (.int .i64 m.a)).setCell ⟨G8, 1, none⟩ (.int .i64 m.b)).setCell ⟨G8, 2, none⟩ (.int .i64 m.c)).setCell ⟨G8, 3, none⟩ (.int .i64 m.d)).setCell ⟨G8, 4, none⟩ (.int .i64 m.e)).setCell ⟨G8, 5, none⟩ (.int .i64 m.f)) G8 23 #[.int .i64 m.a, .int .i64 m.b, .int .i64 m.c, .int .i64 m.d, .int .i64 m.e, .int .i64 m.f] ∧ Below N w ((((((V10.setCell ⟨G8, 0, none⟩ (.int .i64 m.a)).setCell ⟨G8, 1, none⟩ (.int .i64 m.b)).setCell ⟨G8, 2, none⟩ (.int .i64 m.c)).setCell ⟨G8, 3, none⟩ (.int .i64 m.d)).setCell ⟨G8, 4, none⟩ (.int .i64 m.e)).setCell ⟨G8, 5, none⟩ (.int .i64 m.f)) ∧ N ≤ ((((((V10.setCell ⟨G8, 0, none⟩ (.int .i64 m.a)).setCell ⟨G8, 1, none⟩ (.int .i64 m.b)).setCell ⟨G8, 2, none⟩ (.int .i64 m.c)).setCell ⟨G8, 3, none⟩ (.int .i64 m.d)).setCell ⟨G8, 4, none⟩ (.int .i64 m.e)).setCell ⟨G8, 5, none⟩ (.int .i64 m.f)).heap.size ∧ Blk ((((((V10.setCell ⟨G8, 0, none⟩ (.int .i64 m.a)).setCell ⟨G8, 1, none⟩ (.int .i64 m.b)).setCell ⟨G8, 2, none⟩ (.int .i64 m.c)).setCell ⟨G8, 3, none⟩ (.int .i64 m.d)).setCell ⟨G8, 4, none⟩ (.int .i64 m.e)).setCell ⟨G8, 5, none⟩ (.int .i64 m.f)) N 23 #[.int .i64 m.a, .int .i64 m.b, .int .i64 m.c, .int .i64 m.d, .int .i64 m.e, .int .i64 m.f] ∧ Blk ((((((V10.setCell ⟨G8, 0, none⟩ (.int .i64 m.a)).setCell ⟨G8, 1, none⟩ (.int .i64 m.b)).setCell ⟨G8, 2, none⟩ (.int .i64 m.c)).setCell ⟨G8, 3, none⟩ (.int .i64 m.d)).setCell ⟨G8, 4, none⟩ (.int .i64 m.e)).setCell ⟨G8, 5, none⟩ (.int .i64 m.f)) P 25 #[.int .i64 x, .int .i64 y]) := Lib.hid ⟨((((((HR10.out.set_ 0 _).set_ 1 _).set_ 2 _).set_ 3 _).set_ 4 _).set_ 5 _), ((((((HB.out.trans (HV10.out.mono HNZ.out)).setCell (p := ⟨G8, 0, none⟩) (Nat.le_trans HNZ.out HGG) _).setCell (p := ⟨G8, 1, none⟩) (Nat.le_trans HNZ.out HGG) _).setCell (p := ⟨G8, 2, none⟩) (Nat.le_trans HNZ.out HGG) _).setCell (p := ⟨G8, 3, none⟩) (Nat.le_trans HNZ.out HGG) _).setCell (p := ⟨G8, 4, none⟩) (Nat.le_trans HNZ.out HGG) _).setCell (p := ⟨G8, 5, none⟩) (Nat.le_trans HNZ.out HGG) _, Nat.le_trans HNZ.out (Nat.le_trans HGG (Nat.le_of_lt (((((((HR10.out.set_ 0 _).set_ 1 _).set_ 2 _).set_ 3 _).set_ 4 _).set_ 5 _)).lt)), (((((((La.out.below HV10.out Ka.out).far (p := ⟨G8, 0, none⟩) (show N ≠ G8 by have := Ka.out; omega) _).far (p := ⟨G8, 1, none⟩) (show N ≠ G8 by have := Ka.out; omega) _).far (p := ⟨G8, 2, none⟩) (show N ≠ G8 by have := Ka.out; omega) _).far (p := ⟨G8, 3, none⟩) (show N ≠ G8 by have := Ka.out; omega) _).far (p := ⟨G8, 4, none⟩) (show N ≠ G8 by have := Ka.out; omega) _).far (p := ⟨G8, 5, none⟩) (show N ≠ G8 by have := Ka.out; omega) _), (((((((Lp.out.below HV10.out Kp.out).far (p := ⟨G8, 0, none⟩) (show P ≠ G8 by have := Kp.out; omega) _).far (p := ⟨G8, 1, none⟩) (show P ≠ G8 by have := Kp.out; omega) _).far (p := ⟨G8, 2, none⟩) (show P ≠ G8 by have := Kp.out; omega) _).far (p := ⟨G8, 3, none⟩) (show P ≠ G8 by have := Kp.out; omega) _).far (p := ⟨G8, 4, none⟩) (show P ≠ G8 by have := Kp.out; omega) _).far (p := ⟨G8, 5, none⟩) (show P ≠ G8 by have := Kp.out; omega) _)⟩
            have hS2 : (fun W2 : World => W2.cell? ⟨N, 0, none⟩ = some (.int .i64 m.a) ∧ W2.cell? ⟨N, 1, none⟩ = some (.int .i64 m.b) ∧ W2.cell? ⟨N, 2, none⟩ = some (.int .i64 m.c) ∧ W2.cell? ⟨N, 3, none⟩ = some (.int .i64 m.d) ∧ W2.cell? ⟨N, 4, none⟩ = some (.int .i64 m.e) ∧ W2.cell? ⟨N, 5, none⟩ = some (.int .i64 m.f)) ((((((V10.setCell ⟨G8, 0, none⟩ (.int .i64 m.a)).setCell ⟨G8, 1, none⟩ (.int .i64 m.b)).setCell ⟨G8, 2, none⟩ (.int .i64 m.c)).setCell ⟨G8, 3, none⟩ (.int .i64 m.d)).setCell ⟨G8, 4, none⟩ (.int .i64 m.e)).setCell ⟨G8, 5, none⟩ (.int .i64 m.f)) := by
              obtain ⟨⟨s0, s1, s2, s3, s4, s5⟩, _⟩ := six_cells (HEnd.out.2.2.2.1)
              exact ⟨s0, s1, s2, s3, s4, s5⟩
            have HS2 := Lib.hid hS2
            clear hS2 HGG
            go_simp
            refine hK.out _ _ HS2.out (fun hHeld => ?_)
            clear hK K
            refine wpAnyH_take (i := 8) (v := ?_) rfl (by kernel_rfl) (by kernel_rfl) (by kernel_rfl) (fun _ _ _ h => h) (Or.inl ⟨by rfl, ?_⟩) hHeld ?_
            rotate_left
            · intro w hSw
              go_simp
              first | done | with_reducible rfl
            try simp only [Act.put, List.setIfInBounds_toArray]
            refine wpAnyH_done (by kernel_rfl) ?_ _
            go_wp2_with fail
            go_meet
            exact ⟨G8, rfl, rfl, HEnd⟩
          exact AllReadyH.nil
        exact AllReadyH.nil
      exact AllReadyH.nil
    exact AllReadyH.nil
  case rest =>
    obtain ⟨U3, rfl⟩ : ∃ X, X = wc := ⟨_, rfl⟩
    obtain ⟨Gq, rfl, rfl, HCut⟩ := hcut
    have HB := Lib.hid HCut.out.2.1
    have HS := Lib.hid HCut.out.2.2.1
    have La := Lib.hid (HCut.out.2.2.2.1)
    have Lp := Lib.hid (HCut.out.2.2.2.2)
    have Lq := Lib.hid HCut.out.1
    clear HCut
    go_upto_region 6 with fail
    go_cut [7, 8] from 24 to 29 (fun a5 a6 wx => ∃ G, a5 = .pointer (some ⟨G, 0, none⟩) ∧ a6 = .int .i64 0 ∧ Hid (Blk wx G 23 #[.int .i64 m.a, .int .i64 m.b, .int .i64 m.c, .int .i64 m.d, .int .i64 m.e, .int .i64 m.f] ∧ Below N w wx ∧ N ≤ wx.heap.size ∧ Blk wx N 23 #[.int .i64 m.a, .int .i64 m.b, .int .i64 m.c, .int .i64 m.d, .int .i64 m.e, .int .i64 m.f] ∧ Blk wx P 25 #[.int .i64 x, .int .i64 y] ∧ Blk wx Gq 23 #[.int .i64 m.a, .int .i64 m.b, .int .i64 m.c, .int .i64 m.d, .int .i64 m.e, .int .i64 m.f]))
    case first =>
      obtain ⟨Z, hZ⟩ : ∃ Z, U3.heap.size = Z := ⟨_, rfl⟩
      have HZ : Hid (Z ≤ U3.heap.size) := Lib.hid (Nat.le_of_eq hZ.symm)
      have HNZ : Hid (N ≤ Z) := Lib.hid (by rw [← hZ]; exact HS.out)
      have Ka := Lib.hid (show N < Z by rw [← hZ]; exact La.out.lt)
      have Kp := Lib.hid (show P < Z by rw [← hZ]; exact Lp.out.lt)
      have Kq := Lib.hid (show Gq < Z by rw [← hZ]; exact Lq.out.lt)
      have HSv : Hid (∀ W2, Below Z U3 W2 → (W2.cell? ⟨N, 0, none⟩ = some (.int .i64 m.a) ∧ W2.cell? ⟨N, 1, none⟩ = some (.int .i64 m.b) ∧ W2.cell? ⟨N, 2, none⟩ = some (.int .i64 m.c) ∧ W2.cell? ⟨N, 3, none⟩ = some (.int .i64 m.d) ∧ W2.cell? ⟨N, 4, none⟩ = some (.int .i64 m.e) ∧ W2.cell? ⟨N, 5, none⟩ = some (.int .i64 m.f))) := Lib.hid (fun W2 hb2 => by
        obtain ⟨⟨s0, s1, s2, s3, s4, s5⟩, _⟩ := six_cells (La.out.below hb2 Ka.out)
        exact ⟨s0, s1, s2, s3, s4, s5⟩)
      clear hZ
      refine wp_region_held_drew (S := fun W2 => W2.cell? ⟨N, 0, none⟩ = some (.int .i64 m.a) ∧ W2.cell? ⟨N, 1, none⟩ = some (.int .i64 m.b) ∧ W2.cell? ⟨N, 2, none⟩ = some (.int .i64 m.c) ∧ W2.cell? ⟨N, 3, none⟩ = some (.int .i64 m.d) ∧ W2.cell? ⟨N, 4, none⟩ = some (.int .i64 m.e) ∧ W2.cell? ⟨N, 5, none⟩ = some (.int .i64 m.f)) (by kernel_rfl) (HSv.out _ ((Below.refl _ U3).drew)) (fun hHeld => ?_)
      obtain ⟨V0, hU⟩ : ∃ U, U3.drew = U := ⟨_, rfl⟩
      have HV0 : Hid (Below Z U3 V0) := Lib.hid (by rw [← hU]; exact (Below.refl _ U3).drew)
      rw [hU] at hHeld
      rw [hU]
      clear hU
      refine wpAnyH_take (i := 1) (v := ?_) rfl (by kernel_rfl) (by kernel_rfl) (by kernel_rfl) (fun _ _ _ h => h) (Or.inl ⟨by rfl, ?_⟩) hHeld ?_
      rotate_left
      · intro w hSw
        obtain ⟨s0, s1, s2, s3, s4, s5⟩ := hSw
        go_simp
        first | done | with_reducible rfl
      try simp only [Act.put, List.setIfInBounds_toArray]
      refine wpAnyH_ready (rs := [0, 6]) (by kernel_rfl) (by simp) ?_
      refine AllReadyH.cons rfl (fun K hK => ?_) ?_
      · go_simp
        refine (K0.out V0).mono ?_
        rintro e V1 ⟨rfl, hb⟩
        have HV1 : Hid (Below Z U3 V1) := Lib.hid (HV0.out.trans (hb.mono (Nat.le_trans HZ.out HV0.out.size)))
        refine hK.out _ _ (HSv.out _ HV1.out) (fun hHeld => ?_)
        clear hb hK K
        refine wpAnyH_ready (rs := [2, 6]) (by kernel_rfl) (by simp) ?_
        refine AllReadyH.cons rfl (fun K hK => ?_) ?_
        · go_simp
          refine (K2.out V1).mono ?_
          rintro e V2 ⟨rfl, hb⟩
          have HV2 : Hid (Below Z U3 V2) := Lib.hid (HV1.out.trans (hb.mono (Nat.le_trans HZ.out HV1.out.size)))
          refine hK.out _ _ (HSv.out _ HV2.out) (fun hHeld => ?_)
          clear hb hK K
          refine wpAnyH_take (i := 3) (v := ?_) rfl (by kernel_rfl) (by kernel_rfl) (by kernel_rfl) (fun _ _ _ h => h) (Or.inl ⟨by rfl, ?_⟩) hHeld ?_
          rotate_left
          · intro w hSw
            go_simp
            first | done | with_reducible rfl
          try simp only [Act.put, List.setIfInBounds_toArray]
          refine wpAnyH_take (i := 4) (v := ?_) rfl (by kernel_rfl) (by kernel_rfl) (by kernel_rfl) (fun _ _ _ h => h) (Or.inl ⟨by rfl, ?_⟩) hHeld ?_
          rotate_left
          · intro w hSw
            go_simp
            first | done | with_reducible rfl
          try simp only [Act.put]
          refine wpAnyH_take (i := 5) (v := ?_) rfl (by kernel_rfl) (by kernel_rfl) (by kernel_rfl) (fun _ _ _ h => h) (Or.inl ⟨by rfl, ?_⟩) hHeld ?_
          rotate_left
          · intro w hSw
            go_simp
            first | done | with_reducible rfl
          try simp only [Act.put]
          refine wpAnyH_ready (rs := [6]) (by kernel_rfl) (by simp) ?_
          refine AllReadyH.cons rfl (fun K hK => ?_) ?_
          · go_simp
            refine hK.out _ _ (HSv.out _ (HV2.out.alloc (Nat.le_trans HZ.out HV2.out.size) _)) (fun hHeld => ?_)
            clear hK K
            obtain ⟨G3, hG⟩ : ∃ G, V2.heap.size = G := ⟨_, rfl⟩
            obtain ⟨V3, hU⟩ : ∃ X, V2.alloc (.cells #[.int .i64 0, .int .i64 0, .int .i64 0, .int .i64 0, .int .i64 0, .int .i64 0] 23) = X := ⟨_, rfl⟩
            have HV3 : Hid (Below Z U3 V3) := Lib.hid (by rw [← hU]; exact HV2.out.alloc (Nat.le_trans HZ.out HV2.out.size) _)
            have HR3 : Hid (Blk V3 G3 23 #[.int .i64 0, .int .i64 0, .int .i64 0, .int .i64 0, .int .i64 0, .int .i64 0]) := Lib.hid (by rw [← hU, ← hG]; exact Blk.new V2 _ _)
            have HG3 : Hid (Z ≤ G3) := Lib.hid (by rw [← hG]; exact Nat.le_trans HZ.out HV2.out.size)
            rw [hU] at hHeld
            rw [hU, hG]
            clear hU hG
            refine wpAnyH_ready (rs := [7]) (by kernel_rfl) (by simp) ?_
            refine AllReadyH.cons rfl (fun K hK => ?_) ?_
            · have HGG := HG3.out
              obtain ⟨⟨c0, c1, c2, c3, c4, c5⟩, ⟨f0, f1, f2, f3, f4, f5⟩⟩ := six_cells HR3.out
              have HEnd : Hid (Blk ((((((V3.setCell ⟨G3, 0, none⟩ (.int .i64 m.a)).setCell ⟨G3, 1, none⟩ (.int .i64 m.b)).setCell ⟨G3, 2, none⟩ (.int .i64 m.c)).setCell ⟨G3, 3, none⟩ (.int .i64 m.d)).setCell ⟨G3, 4, none⟩ (.int .i64 m.e)).setCell ⟨G3, 5, none⟩ (.int .i64 m.f)) G3 23 #[.int .i64 m.a, .int .i64 m.b, .int .i64 m.c, .int .i64 m.d, .int .i64 m.e, .int .i64 m.f] ∧ Below N w ((((((V3.setCell ⟨G3, 0, none⟩ (.int .i64 m.a)).setCell ⟨G3, 1, none⟩ (.int .i64 m.b)).setCell ⟨G3, 2, none⟩ (.int .i64 m.c)).setCell ⟨G3, 3, none⟩ (.int .i64 m.d)).setCell ⟨G3, 4, none⟩ (.int .i64 m.e)).setCell ⟨G3, 5, none⟩ (.int .i64 m.f)) ∧ N ≤ ((((((V3.setCell ⟨G3, 0, none⟩ (.int .i64 m.a)).setCell ⟨G3, 1, none⟩ (.int .i64 m.b)).setCell ⟨G3, 2, none⟩ (.int .i64 m.c)).setCell ⟨G3, 3, none⟩ (.int .i64 m.d)).setCell ⟨G3, 4, none⟩ (.int .i64 m.e)).setCell ⟨G3, 5, none⟩ (.int .i64 m.f)).heap.size ∧ Blk ((((((V3.setCell ⟨G3, 0, none⟩ (.int .i64 m.a)).setCell ⟨G3, 1, none⟩ (.int .i64 m.b)).setCell ⟨G3, 2, none⟩ (.int .i64 m.c)).setCell ⟨G3, 3, none⟩ (.int .i64 m.d)).setCell ⟨G3, 4, none⟩ (.int .i64 m.e)).setCell ⟨G3, 5, none⟩ (.int .i64 m.f)) N 23 #[.int .i64 m.a, .int .i64 m.b, .int .i64 m.c, .int .i64 m.d, .int .i64 m.e, .int .i64 m.f] ∧ Blk ((((((V3.setCell ⟨G3, 0, none⟩ (.int .i64 m.a)).setCell ⟨G3, 1, none⟩ (.int .i64 m.b)).setCell ⟨G3, 2, none⟩ (.int .i64 m.c)).setCell ⟨G3, 3, none⟩ (.int .i64 m.d)).setCell ⟨G3, 4, none⟩ (.int .i64 m.e)).setCell ⟨G3, 5, none⟩ (.int .i64 m.f)) P 25 #[.int .i64 x, .int .i64 y] ∧ Blk ((((((V3.setCell ⟨G3, 0, none⟩ (.int .i64 m.a)).setCell ⟨G3, 1, none⟩ (.int .i64 m.b)).setCell ⟨G3, 2, none⟩ (.int .i64 m.c)).setCell ⟨G3, 3, none⟩ (.int .i64 m.d)).setCell ⟨G3, 4, none⟩ (.int .i64 m.e)).setCell ⟨G3, 5, none⟩ (.int .i64 m.f)) Gq 23 #[.int .i64 m.a, .int .i64 m.b, .int .i64 m.c, .int .i64 m.d, .int .i64 m.e, .int .i64 m.f]) := Lib.hid ⟨((((((HR3.out.set_ 0 _).set_ 1 _).set_ 2 _).set_ 3 _).set_ 4 _).set_ 5 _), ((((((HB.out.trans (HV3.out.mono HNZ.out)).setCell (p := ⟨G3, 0, none⟩) (Nat.le_trans HNZ.out HGG) _).setCell (p := ⟨G3, 1, none⟩) (Nat.le_trans HNZ.out HGG) _).setCell (p := ⟨G3, 2, none⟩) (Nat.le_trans HNZ.out HGG) _).setCell (p := ⟨G3, 3, none⟩) (Nat.le_trans HNZ.out HGG) _).setCell (p := ⟨G3, 4, none⟩) (Nat.le_trans HNZ.out HGG) _).setCell (p := ⟨G3, 5, none⟩) (Nat.le_trans HNZ.out HGG) _, Nat.le_trans HNZ.out (Nat.le_trans HGG (Nat.le_of_lt (((((((HR3.out.set_ 0 _).set_ 1 _).set_ 2 _).set_ 3 _).set_ 4 _).set_ 5 _)).lt)), (((((((La.out.below HV3.out Ka.out).far (p := ⟨G3, 0, none⟩) (show N ≠ G3 by have := Ka.out; omega) _).far (p := ⟨G3, 1, none⟩) (show N ≠ G3 by have := Ka.out; omega) _).far (p := ⟨G3, 2, none⟩) (show N ≠ G3 by have := Ka.out; omega) _).far (p := ⟨G3, 3, none⟩) (show N ≠ G3 by have := Ka.out; omega) _).far (p := ⟨G3, 4, none⟩) (show N ≠ G3 by have := Ka.out; omega) _).far (p := ⟨G3, 5, none⟩) (show N ≠ G3 by have := Ka.out; omega) _), (((((((Lp.out.below HV3.out Kp.out).far (p := ⟨G3, 0, none⟩) (show P ≠ G3 by have := Kp.out; omega) _).far (p := ⟨G3, 1, none⟩) (show P ≠ G3 by have := Kp.out; omega) _).far (p := ⟨G3, 2, none⟩) (show P ≠ G3 by have := Kp.out; omega) _).far (p := ⟨G3, 3, none⟩) (show P ≠ G3 by have := Kp.out; omega) _).far (p := ⟨G3, 4, none⟩) (show P ≠ G3 by have := Kp.out; omega) _).far (p := ⟨G3, 5, none⟩) (show P ≠ G3 by have := Kp.out; omega) _), (((((((Lq.out.below HV3.out Kq.out).far (p := ⟨G3, 0, none⟩) (show Gq ≠ G3 by have := Kq.out; omega) _).far (p := ⟨G3, 1, none⟩) (show Gq ≠ G3 by have := Kq.out; omega) _).far (p := ⟨G3, 2, none⟩) (show Gq ≠ G3 by have := Kq.out; omega) _).far (p := ⟨G3, 3, none⟩) (show Gq ≠ G3 by have := Kq.out; omega) _).far (p := ⟨G3, 4, none⟩) (show Gq ≠ G3 by have := Kq.out; omega) _).far (p := ⟨G3, 5, none⟩) (show Gq ≠ G3 by have := Kq.out; omega) _)⟩
              have hS2 : (fun W2 : World => W2.cell? ⟨N, 0, none⟩ = some (.int .i64 m.a) ∧ W2.cell? ⟨N, 1, none⟩ = some (.int .i64 m.b) ∧ W2.cell? ⟨N, 2, none⟩ = some (.int .i64 m.c) ∧ W2.cell? ⟨N, 3, none⟩ = some (.int .i64 m.d) ∧ W2.cell? ⟨N, 4, none⟩ = some (.int .i64 m.e) ∧ W2.cell? ⟨N, 5, none⟩ = some (.int .i64 m.f)) ((((((V3.setCell ⟨G3, 0, none⟩ (.int .i64 m.a)).setCell ⟨G3, 1, none⟩ (.int .i64 m.b)).setCell ⟨G3, 2, none⟩ (.int .i64 m.c)).setCell ⟨G3, 3, none⟩ (.int .i64 m.d)).setCell ⟨G3, 4, none⟩ (.int .i64 m.e)).setCell ⟨G3, 5, none⟩ (.int .i64 m.f)) := by
                obtain ⟨⟨s0, s1, s2, s3, s4, s5⟩, _⟩ := six_cells (HEnd.out.2.2.2.1)
                exact ⟨s0, s1, s2, s3, s4, s5⟩
              have HS2 := Lib.hid hS2
              clear hS2 HGG
              go_simp
              refine hK.out _ _ HS2.out (fun hHeld => ?_)
              clear hK K
              refine wpAnyH_take (i := 8) (v := ?_) rfl (by kernel_rfl) (by kernel_rfl) (by kernel_rfl) (fun _ _ _ h => h) (Or.inl ⟨by rfl, ?_⟩) hHeld ?_
              rotate_left
              · intro w hSw
                go_simp
                first | done | with_reducible rfl
              try simp only [Act.put, List.setIfInBounds_toArray]
              refine wpAnyH_done (by kernel_rfl) ?_ _
              go_wp2_with fail
              go_meet
              exact ⟨G3, rfl, rfl, HEnd⟩
            exact AllReadyH.nil
          exact AllReadyH.nil
        refine AllReadyH.cons rfl (fun K hK => ?_) ?_
        · go_simp
          refine hK.out _ _ (HSv.out _ (HV1.out.alloc (Nat.le_trans HZ.out HV1.out.size) _)) (fun hHeld => ?_)
          clear hK K
          obtain ⟨G5, hG⟩ : ∃ G, V1.heap.size = G := ⟨_, rfl⟩
          obtain ⟨V5, hU⟩ : ∃ X, V1.alloc (.cells #[.int .i64 0, .int .i64 0, .int .i64 0, .int .i64 0, .int .i64 0, .int .i64 0] 23) = X := ⟨_, rfl⟩
          have HV5 : Hid (Below Z U3 V5) := Lib.hid (by rw [← hU]; exact HV1.out.alloc (Nat.le_trans HZ.out HV1.out.size) _)
          have HR5 : Hid (Blk V5 G5 23 #[.int .i64 0, .int .i64 0, .int .i64 0, .int .i64 0, .int .i64 0, .int .i64 0]) := Lib.hid (by rw [← hU, ← hG]; exact Blk.new V1 _ _)
          have HG5 : Hid (Z ≤ G5) := Lib.hid (by rw [← hG]; exact Nat.le_trans HZ.out HV1.out.size)
          rw [hU] at hHeld
          rw [hU, hG]
          clear hU hG
          refine wpAnyH_ready (rs := [2]) (by kernel_rfl) (by simp) ?_
          refine AllReadyH.cons rfl (fun K hK => ?_) ?_
          · go_simp
            refine (K2.out V5).mono ?_
            rintro e V6 ⟨rfl, hb⟩
            have HV6 : Hid (Below Z U3 V6) := Lib.hid (HV5.out.trans (hb.mono (Nat.le_trans HZ.out HV5.out.size)))
            have HR6 := Lib.hid (HR5.out.below hb HR5.out.lt)
            refine hK.out _ _ (HSv.out _ HV6.out) (fun hHeld => ?_)
            clear hb hK K
            refine wpAnyH_take (i := 3) (v := ?_) rfl (by kernel_rfl) (by kernel_rfl) (by kernel_rfl) (fun _ _ _ h => h) (Or.inl ⟨by rfl, ?_⟩) hHeld ?_
            rotate_left
            · intro w hSw
              go_simp
              first | done | with_reducible rfl
            try simp only [Act.put, List.setIfInBounds_toArray]
            refine wpAnyH_take (i := 4) (v := ?_) rfl (by kernel_rfl) (by kernel_rfl) (by kernel_rfl) (fun _ _ _ h => h) (Or.inl ⟨by rfl, ?_⟩) hHeld ?_
            rotate_left
            · intro w hSw
              go_simp
              first | done | with_reducible rfl
            try simp only [Act.put]
            refine wpAnyH_take (i := 5) (v := ?_) rfl (by kernel_rfl) (by kernel_rfl) (by kernel_rfl) (fun _ _ _ h => h) (Or.inl ⟨by rfl, ?_⟩) hHeld ?_
            rotate_left
            · intro w hSw
              go_simp
              first | done | with_reducible rfl
            try simp only [Act.put]
            refine wpAnyH_ready (rs := [7]) (by kernel_rfl) (by simp) ?_
            refine AllReadyH.cons rfl (fun K hK => ?_) ?_
            · have HGG := HG5.out
              obtain ⟨⟨c0, c1, c2, c3, c4, c5⟩, ⟨f0, f1, f2, f3, f4, f5⟩⟩ := six_cells HR6.out
              have HEnd : Hid (Blk ((((((V6.setCell ⟨G5, 0, none⟩ (.int .i64 m.a)).setCell ⟨G5, 1, none⟩ (.int .i64 m.b)).setCell ⟨G5, 2, none⟩ (.int .i64 m.c)).setCell ⟨G5, 3, none⟩ (.int .i64 m.d)).setCell ⟨G5, 4, none⟩ (.int .i64 m.e)).setCell ⟨G5, 5, none⟩ (.int .i64 m.f)) G5 23 #[.int .i64 m.a, .int .i64 m.b, .int .i64 m.c, .int .i64 m.d, .int .i64 m.e, .int .i64 m.f] ∧ Below N w ((((((V6.setCell ⟨G5, 0, none⟩ (.int .i64 m.a)).setCell ⟨G5, 1, none⟩ (.int .i64 m.b)).setCell ⟨G5, 2, none⟩ (.int .i64 m.c)).setCell ⟨G5, 3, none⟩ (.int .i64 m.d)).setCell ⟨G5, 4, none⟩ (.int .i64 m.e)).setCell ⟨G5, 5, none⟩ (.int .i64 m.f)) ∧ N ≤ ((((((V6.setCell ⟨G5, 0, none⟩ (.int .i64 m.a)).setCell ⟨G5, 1, none⟩ (.int .i64 m.b)).setCell ⟨G5, 2, none⟩ (.int .i64 m.c)).setCell ⟨G5, 3, none⟩ (.int .i64 m.d)).setCell ⟨G5, 4, none⟩ (.int .i64 m.e)).setCell ⟨G5, 5, none⟩ (.int .i64 m.f)).heap.size ∧ Blk ((((((V6.setCell ⟨G5, 0, none⟩ (.int .i64 m.a)).setCell ⟨G5, 1, none⟩ (.int .i64 m.b)).setCell ⟨G5, 2, none⟩ (.int .i64 m.c)).setCell ⟨G5, 3, none⟩ (.int .i64 m.d)).setCell ⟨G5, 4, none⟩ (.int .i64 m.e)).setCell ⟨G5, 5, none⟩ (.int .i64 m.f)) N 23 #[.int .i64 m.a, .int .i64 m.b, .int .i64 m.c, .int .i64 m.d, .int .i64 m.e, .int .i64 m.f] ∧ Blk ((((((V6.setCell ⟨G5, 0, none⟩ (.int .i64 m.a)).setCell ⟨G5, 1, none⟩ (.int .i64 m.b)).setCell ⟨G5, 2, none⟩ (.int .i64 m.c)).setCell ⟨G5, 3, none⟩ (.int .i64 m.d)).setCell ⟨G5, 4, none⟩ (.int .i64 m.e)).setCell ⟨G5, 5, none⟩ (.int .i64 m.f)) P 25 #[.int .i64 x, .int .i64 y] ∧ Blk ((((((V6.setCell ⟨G5, 0, none⟩ (.int .i64 m.a)).setCell ⟨G5, 1, none⟩ (.int .i64 m.b)).setCell ⟨G5, 2, none⟩ (.int .i64 m.c)).setCell ⟨G5, 3, none⟩ (.int .i64 m.d)).setCell ⟨G5, 4, none⟩ (.int .i64 m.e)).setCell ⟨G5, 5, none⟩ (.int .i64 m.f)) Gq 23 #[.int .i64 m.a, .int .i64 m.b, .int .i64 m.c, .int .i64 m.d, .int .i64 m.e, .int .i64 m.f]) := Lib.hid ⟨((((((HR6.out.set_ 0 _).set_ 1 _).set_ 2 _).set_ 3 _).set_ 4 _).set_ 5 _), ((((((HB.out.trans (HV6.out.mono HNZ.out)).setCell (p := ⟨G5, 0, none⟩) (Nat.le_trans HNZ.out HGG) _).setCell (p := ⟨G5, 1, none⟩) (Nat.le_trans HNZ.out HGG) _).setCell (p := ⟨G5, 2, none⟩) (Nat.le_trans HNZ.out HGG) _).setCell (p := ⟨G5, 3, none⟩) (Nat.le_trans HNZ.out HGG) _).setCell (p := ⟨G5, 4, none⟩) (Nat.le_trans HNZ.out HGG) _).setCell (p := ⟨G5, 5, none⟩) (Nat.le_trans HNZ.out HGG) _, Nat.le_trans HNZ.out (Nat.le_trans HGG (Nat.le_of_lt (((((((HR6.out.set_ 0 _).set_ 1 _).set_ 2 _).set_ 3 _).set_ 4 _).set_ 5 _)).lt)), (((((((La.out.below HV6.out Ka.out).far (p := ⟨G5, 0, none⟩) (show N ≠ G5 by have := Ka.out; omega) _).far (p := ⟨G5, 1, none⟩) (show N ≠ G5 by have := Ka.out; omega) _).far (p := ⟨G5, 2, none⟩) (show N ≠ G5 by have := Ka.out; omega) _).far (p := ⟨G5, 3, none⟩) (show N ≠ G5 by have := Ka.out; omega) _).far (p := ⟨G5, 4, none⟩) (show N ≠ G5 by have := Ka.out; omega) _).far (p := ⟨G5, 5, none⟩) (show N ≠ G5 by have := Ka.out; omega) _), (((((((Lp.out.below HV6.out Kp.out).far (p := ⟨G5, 0, none⟩) (show P ≠ G5 by have := Kp.out; omega) _).far (p := ⟨G5, 1, none⟩) (show P ≠ G5 by have := Kp.out; omega) _).far (p := ⟨G5, 2, none⟩) (show P ≠ G5 by have := Kp.out; omega) _).far (p := ⟨G5, 3, none⟩) (show P ≠ G5 by have := Kp.out; omega) _).far (p := ⟨G5, 4, none⟩) (show P ≠ G5 by have := Kp.out; omega) _).far (p := ⟨G5, 5, none⟩) (show P ≠ G5 by have := Kp.out; omega) _), (((((((Lq.out.below HV6.out Kq.out).far (p := ⟨G5, 0, none⟩) (show Gq ≠ G5 by have := Kq.out; omega) _).far (p := ⟨G5, 1, none⟩) (show Gq ≠ G5 by have := Kq.out; omega) _).far (p := ⟨G5, 2, none⟩) (show Gq ≠ G5 by have := Kq.out; omega) _).far (p := ⟨G5, 3, none⟩) (show Gq ≠ G5 by have := Kq.out; omega) _).far (p := ⟨G5, 4, none⟩) (show Gq ≠ G5 by have := Kq.out; omega) _).far (p := ⟨G5, 5, none⟩) (show Gq ≠ G5 by have := Kq.out; omega) _)⟩
              have hS2 : (fun W2 : World => W2.cell? ⟨N, 0, none⟩ = some (.int .i64 m.a) ∧ W2.cell? ⟨N, 1, none⟩ = some (.int .i64 m.b) ∧ W2.cell? ⟨N, 2, none⟩ = some (.int .i64 m.c) ∧ W2.cell? ⟨N, 3, none⟩ = some (.int .i64 m.d) ∧ W2.cell? ⟨N, 4, none⟩ = some (.int .i64 m.e) ∧ W2.cell? ⟨N, 5, none⟩ = some (.int .i64 m.f)) ((((((V6.setCell ⟨G5, 0, none⟩ (.int .i64 m.a)).setCell ⟨G5, 1, none⟩ (.int .i64 m.b)).setCell ⟨G5, 2, none⟩ (.int .i64 m.c)).setCell ⟨G5, 3, none⟩ (.int .i64 m.d)).setCell ⟨G5, 4, none⟩ (.int .i64 m.e)).setCell ⟨G5, 5, none⟩ (.int .i64 m.f)) := by
                obtain ⟨⟨s0, s1, s2, s3, s4, s5⟩, _⟩ := six_cells (HEnd.out.2.2.2.1)
                exact ⟨s0, s1, s2, s3, s4, s5⟩
              have HS2 := Lib.hid hS2
              clear hS2 HGG
              go_simp
              refine hK.out _ _ HS2.out (fun hHeld => ?_)
              clear hK K
              refine wpAnyH_take (i := 8) (v := ?_) rfl (by kernel_rfl) (by kernel_rfl) (by kernel_rfl) (fun _ _ _ h => h) (Or.inl ⟨by rfl, ?_⟩) hHeld ?_
              rotate_left
              · intro w hSw
                go_simp
                first | done | with_reducible rfl
              try simp only [Act.put, List.setIfInBounds_toArray]
              refine wpAnyH_done (by kernel_rfl) ?_ _
              go_wp2_with fail
              go_meet
              exact ⟨G5, rfl, rfl, HEnd⟩
            exact AllReadyH.nil
          exact AllReadyH.nil
        exact AllReadyH.nil
      refine AllReadyH.cons rfl (fun K hK => ?_) ?_
      · go_simp
        refine hK.out _ _ (HSv.out _ (HV0.out.alloc (Nat.le_trans HZ.out HV0.out.size) _)) (fun hHeld => ?_)
        clear hK K
        obtain ⟨G8, hG⟩ : ∃ G, V0.heap.size = G := ⟨_, rfl⟩
        obtain ⟨V8, hU⟩ : ∃ X, V0.alloc (.cells #[.int .i64 0, .int .i64 0, .int .i64 0, .int .i64 0, .int .i64 0, .int .i64 0] 23) = X := ⟨_, rfl⟩
        have HV8 : Hid (Below Z U3 V8) := Lib.hid (by rw [← hU]; exact HV0.out.alloc (Nat.le_trans HZ.out HV0.out.size) _)
        have HR8 : Hid (Blk V8 G8 23 #[.int .i64 0, .int .i64 0, .int .i64 0, .int .i64 0, .int .i64 0, .int .i64 0]) := Lib.hid (by rw [← hU, ← hG]; exact Blk.new V0 _ _)
        have HG8 : Hid (Z ≤ G8) := Lib.hid (by rw [← hG]; exact Nat.le_trans HZ.out HV0.out.size)
        rw [hU] at hHeld
        rw [hU, hG]
        clear hU hG
        refine wpAnyH_ready (rs := [0]) (by kernel_rfl) (by simp) ?_
        refine AllReadyH.cons rfl (fun K hK => ?_) ?_
        · go_simp
          refine (K0.out V8).mono ?_
          rintro e V9 ⟨rfl, hb⟩
          have HV9 : Hid (Below Z U3 V9) := Lib.hid (HV8.out.trans (hb.mono (Nat.le_trans HZ.out HV8.out.size)))
          have HR9 := Lib.hid (HR8.out.below hb HR8.out.lt)
          refine hK.out _ _ (HSv.out _ HV9.out) (fun hHeld => ?_)
          clear hb hK K
          refine wpAnyH_ready (rs := [2]) (by kernel_rfl) (by simp) ?_
          refine AllReadyH.cons rfl (fun K hK => ?_) ?_
          · go_simp
            refine (K2.out V9).mono ?_
            rintro e V10 ⟨rfl, hb⟩
            have HV10 : Hid (Below Z U3 V10) := Lib.hid (HV9.out.trans (hb.mono (Nat.le_trans HZ.out HV9.out.size)))
            have HR10 := Lib.hid (HR9.out.below hb HR9.out.lt)
            refine hK.out _ _ (HSv.out _ HV10.out) (fun hHeld => ?_)
            clear hb hK K
            refine wpAnyH_take (i := 3) (v := ?_) rfl (by kernel_rfl) (by kernel_rfl) (by kernel_rfl) (fun _ _ _ h => h) (Or.inl ⟨by rfl, ?_⟩) hHeld ?_
            rotate_left
            · intro w hSw
              go_simp
              first | done | with_reducible rfl
            try simp only [Act.put, List.setIfInBounds_toArray]
            refine wpAnyH_take (i := 4) (v := ?_) rfl (by kernel_rfl) (by kernel_rfl) (by kernel_rfl) (fun _ _ _ h => h) (Or.inl ⟨by rfl, ?_⟩) hHeld ?_
            rotate_left
            · intro w hSw
              go_simp
              first | done | with_reducible rfl
            try simp only [Act.put]
            refine wpAnyH_take (i := 5) (v := ?_) rfl (by kernel_rfl) (by kernel_rfl) (by kernel_rfl) (fun _ _ _ h => h) (Or.inl ⟨by rfl, ?_⟩) hHeld ?_
            rotate_left
            · intro w hSw
              go_simp
              first | done | with_reducible rfl
            try simp only [Act.put]
            refine wpAnyH_ready (rs := [7]) (by kernel_rfl) (by simp) ?_
            refine AllReadyH.cons rfl (fun K hK => ?_) ?_
            · have HGG := HG8.out
              obtain ⟨⟨c0, c1, c2, c3, c4, c5⟩, ⟨f0, f1, f2, f3, f4, f5⟩⟩ := six_cells HR10.out
              have HEnd : Hid (Blk ((((((V10.setCell ⟨G8, 0, none⟩ (.int .i64 m.a)).setCell ⟨G8, 1, none⟩ (.int .i64 m.b)).setCell ⟨G8, 2, none⟩ (.int .i64 m.c)).setCell ⟨G8, 3, none⟩ (.int .i64 m.d)).setCell ⟨G8, 4, none⟩ (.int .i64 m.e)).setCell ⟨G8, 5, none⟩ (.int .i64 m.f)) G8 23 #[.int .i64 m.a, .int .i64 m.b, .int .i64 m.c, .int .i64 m.d, .int .i64 m.e, .int .i64 m.f] ∧ Below N w ((((((V10.setCell ⟨G8, 0, none⟩ (.int .i64 m.a)).setCell ⟨G8, 1, none⟩ (.int .i64 m.b)).setCell ⟨G8, 2, none⟩ (.int .i64 m.c)).setCell ⟨G8, 3, none⟩ (.int .i64 m.d)).setCell ⟨G8, 4, none⟩ (.int .i64 m.e)).setCell ⟨G8, 5, none⟩ (.int .i64 m.f)) ∧ N ≤ ((((((V10.setCell ⟨G8, 0, none⟩ (.int .i64 m.a)).setCell ⟨G8, 1, none⟩ (.int .i64 m.b)).setCell ⟨G8, 2, none⟩ (.int .i64 m.c)).setCell ⟨G8, 3, none⟩ (.int .i64 m.d)).setCell ⟨G8, 4, none⟩ (.int .i64 m.e)).setCell ⟨G8, 5, none⟩ (.int .i64 m.f)).heap.size ∧ Blk ((((((V10.setCell ⟨G8, 0, none⟩ (.int .i64 m.a)).setCell ⟨G8, 1, none⟩ (.int .i64 m.b)).setCell ⟨G8, 2, none⟩ (.int .i64 m.c)).setCell ⟨G8, 3, none⟩ (.int .i64 m.d)).setCell ⟨G8, 4, none⟩ (.int .i64 m.e)).setCell ⟨G8, 5, none⟩ (.int .i64 m.f)) N 23 #[.int .i64 m.a, .int .i64 m.b, .int .i64 m.c, .int .i64 m.d, .int .i64 m.e, .int .i64 m.f] ∧ Blk ((((((V10.setCell ⟨G8, 0, none⟩ (.int .i64 m.a)).setCell ⟨G8, 1, none⟩ (.int .i64 m.b)).setCell ⟨G8, 2, none⟩ (.int .i64 m.c)).setCell ⟨G8, 3, none⟩ (.int .i64 m.d)).setCell ⟨G8, 4, none⟩ (.int .i64 m.e)).setCell ⟨G8, 5, none⟩ (.int .i64 m.f)) P 25 #[.int .i64 x, .int .i64 y] ∧ Blk ((((((V10.setCell ⟨G8, 0, none⟩ (.int .i64 m.a)).setCell ⟨G8, 1, none⟩ (.int .i64 m.b)).setCell ⟨G8, 2, none⟩ (.int .i64 m.c)).setCell ⟨G8, 3, none⟩ (.int .i64 m.d)).setCell ⟨G8, 4, none⟩ (.int .i64 m.e)).setCell ⟨G8, 5, none⟩ (.int .i64 m.f)) Gq 23 #[.int .i64 m.a, .int .i64 m.b, .int .i64 m.c, .int .i64 m.d, .int .i64 m.e, .int .i64 m.f]) := Lib.hid ⟨((((((HR10.out.set_ 0 _).set_ 1 _).set_ 2 _).set_ 3 _).set_ 4 _).set_ 5 _), ((((((HB.out.trans (HV10.out.mono HNZ.out)).setCell (p := ⟨G8, 0, none⟩) (Nat.le_trans HNZ.out HGG) _).setCell (p := ⟨G8, 1, none⟩) (Nat.le_trans HNZ.out HGG) _).setCell (p := ⟨G8, 2, none⟩) (Nat.le_trans HNZ.out HGG) _).setCell (p := ⟨G8, 3, none⟩) (Nat.le_trans HNZ.out HGG) _).setCell (p := ⟨G8, 4, none⟩) (Nat.le_trans HNZ.out HGG) _).setCell (p := ⟨G8, 5, none⟩) (Nat.le_trans HNZ.out HGG) _, Nat.le_trans HNZ.out (Nat.le_trans HGG (Nat.le_of_lt (((((((HR10.out.set_ 0 _).set_ 1 _).set_ 2 _).set_ 3 _).set_ 4 _).set_ 5 _)).lt)), (((((((La.out.below HV10.out Ka.out).far (p := ⟨G8, 0, none⟩) (show N ≠ G8 by have := Ka.out; omega) _).far (p := ⟨G8, 1, none⟩) (show N ≠ G8 by have := Ka.out; omega) _).far (p := ⟨G8, 2, none⟩) (show N ≠ G8 by have := Ka.out; omega) _).far (p := ⟨G8, 3, none⟩) (show N ≠ G8 by have := Ka.out; omega) _).far (p := ⟨G8, 4, none⟩) (show N ≠ G8 by have := Ka.out; omega) _).far (p := ⟨G8, 5, none⟩) (show N ≠ G8 by have := Ka.out; omega) _), (((((((Lp.out.below HV10.out Kp.out).far (p := ⟨G8, 0, none⟩) (show P ≠ G8 by have := Kp.out; omega) _).far (p := ⟨G8, 1, none⟩) (show P ≠ G8 by have := Kp.out; omega) _).far (p := ⟨G8, 2, none⟩) (show P ≠ G8 by have := Kp.out; omega) _).far (p := ⟨G8, 3, none⟩) (show P ≠ G8 by have := Kp.out; omega) _).far (p := ⟨G8, 4, none⟩) (show P ≠ G8 by have := Kp.out; omega) _).far (p := ⟨G8, 5, none⟩) (show P ≠ G8 by have := Kp.out; omega) _), (((((((Lq.out.below HV10.out Kq.out).far (p := ⟨G8, 0, none⟩) (show Gq ≠ G8 by have := Kq.out; omega) _).far (p := ⟨G8, 1, none⟩) (show Gq ≠ G8 by have := Kq.out; omega) _).far (p := ⟨G8, 2, none⟩) (show Gq ≠ G8 by have := Kq.out; omega) _).far (p := ⟨G8, 3, none⟩) (show Gq ≠ G8 by have := Kq.out; omega) _).far (p := ⟨G8, 4, none⟩) (show Gq ≠ G8 by have := Kq.out; omega) _).far (p := ⟨G8, 5, none⟩) (show Gq ≠ G8 by have := Kq.out; omega) _)⟩
              have hS2 : (fun W2 : World => W2.cell? ⟨N, 0, none⟩ = some (.int .i64 m.a) ∧ W2.cell? ⟨N, 1, none⟩ = some (.int .i64 m.b) ∧ W2.cell? ⟨N, 2, none⟩ = some (.int .i64 m.c) ∧ W2.cell? ⟨N, 3, none⟩ = some (.int .i64 m.d) ∧ W2.cell? ⟨N, 4, none⟩ = some (.int .i64 m.e) ∧ W2.cell? ⟨N, 5, none⟩ = some (.int .i64 m.f)) ((((((V10.setCell ⟨G8, 0, none⟩ (.int .i64 m.a)).setCell ⟨G8, 1, none⟩ (.int .i64 m.b)).setCell ⟨G8, 2, none⟩ (.int .i64 m.c)).setCell ⟨G8, 3, none⟩ (.int .i64 m.d)).setCell ⟨G8, 4, none⟩ (.int .i64 m.e)).setCell ⟨G8, 5, none⟩ (.int .i64 m.f)) := by
                obtain ⟨⟨s0, s1, s2, s3, s4, s5⟩, _⟩ := six_cells (HEnd.out.2.2.2.1)
                exact ⟨s0, s1, s2, s3, s4, s5⟩
              have HS2 := Lib.hid hS2
              clear hS2 HGG
              go_simp
              refine hK.out _ _ HS2.out (fun hHeld => ?_)
              clear hK K
              refine wpAnyH_take (i := 8) (v := ?_) rfl (by kernel_rfl) (by kernel_rfl) (by kernel_rfl) (fun _ _ _ h => h) (Or.inl ⟨by rfl, ?_⟩) hHeld ?_
              rotate_left
              · intro w hSw
                go_simp
                first | done | with_reducible rfl
              try simp only [Act.put, List.setIfInBounds_toArray]
              refine wpAnyH_done (by kernel_rfl) ?_ _
              go_wp2_with fail
              go_meet
              exact ⟨G8, rfl, rfl, HEnd⟩
            exact AllReadyH.nil
          exact AllReadyH.nil
        exact AllReadyH.nil
      exact AllReadyH.nil
    case rest =>
      obtain ⟨U4, rfl⟩ : ∃ X, X = wc := ⟨_, rfl⟩
      obtain ⟨Gs, rfl, rfl, HCut⟩ := hcut
      have HB := Lib.hid HCut.out.2.1
      have HS := Lib.hid HCut.out.2.2.1
      have La := Lib.hid (HCut.out.2.2.2.1)
      have Lp := Lib.hid (HCut.out.2.2.2.2.1)
      have Lq := Lib.hid (HCut.out.2.2.2.2.2)
      have Ls := Lib.hid HCut.out.1
      clear HCut
      go_upto_region 7 with fail
      obtain ⟨ac0, ac1, ac2, ac3, ac4, ac5⟩ := (six_cells La.out).1
      go_wp2_with fail
      refine (K4.out U4).mono ?_
      rintro e U5 ⟨g, c', rfl, hrow, _, hb⟩
      have La := Lib.hid (La.out.below hb La.out.lt)
      have Lp := Lib.hid (Lp.out.below hb Lp.out.lt)
      have Lq := Lib.hid (Lq.out.below hb Lq.out.lt)
      have Ls := Lib.hid (Ls.out.below hb Ls.out.lt)
      have HB := Lib.hid (HB.out.trans (hb.mono HS.out))
      have HS := Lib.hid (Nat.le_trans HS.out hb.size)
      clear hb
      clear ac0 ac1 ac2 ac3 ac4 ac5
      have HR := Lib.hid (read_six 0 0 ⟨#[]⟩ (.slice none 0 0) (some ⟨g, 0, none⟩) c' (objL m 6) U5 (objL_len m 6) (NumRow.of_row hrow))
      rw [HRd.out.1, HRd.out.2] at HR
      unfold mxR mxV at HR
      clear hrow
      go_wp2_with fail
      refine (HR.out).mono ?_
      rintro e U6 ⟨rfl, hb⟩
      have La := Lib.hid (La.out.below hb La.out.lt)
      have Lp := Lib.hid (Lp.out.below hb Lp.out.lt)
      have Lq := Lib.hid (Lq.out.below hb Lq.out.lt)
      have Ls := Lib.hid (Ls.out.below hb Ls.out.lt)
      have HB := Lib.hid (HB.out.trans (hb.mono HS.out))
      have HS := Lib.hid (Nat.le_trans HS.out hb.size)
      clear hb
      clear HR
      obtain ⟨Go, hG⟩ : ∃ G, U6.heap.size = G := ⟨_, rfl⟩
      go_upto_region 8 with fail
      obtain ⟨U7, hU⟩ : ∃ X, U6.alloc (.cells #[.int .i64 m.a, .int .i64 m.b, .int .i64 m.c, .int .i64 m.d, .int .i64 m.e, .int .i64 m.f] 23) = X := ⟨_, rfl⟩
      have La := Lib.hid (La.out.alloc (.cells #[.int .i64 m.a, .int .i64 m.b, .int .i64 m.c, .int .i64 m.d, .int .i64 m.e, .int .i64 m.f] 23))
      rw [hU] at La
      have Lp := Lib.hid (Lp.out.alloc (.cells #[.int .i64 m.a, .int .i64 m.b, .int .i64 m.c, .int .i64 m.d, .int .i64 m.e, .int .i64 m.f] 23))
      rw [hU] at Lp
      have Lq := Lib.hid (Lq.out.alloc (.cells #[.int .i64 m.a, .int .i64 m.b, .int .i64 m.c, .int .i64 m.d, .int .i64 m.e, .int .i64 m.f] 23))
      rw [hU] at Lq
      have Ls := Lib.hid (Ls.out.alloc (.cells #[.int .i64 m.a, .int .i64 m.b, .int .i64 m.c, .int .i64 m.d, .int .i64 m.e, .int .i64 m.f] 23))
      rw [hU] at Ls
      have Lo : Hid (Blk U7 Go 23 #[.int .i64 m.a, .int .i64 m.b, .int .i64 m.c, .int .i64 m.d, .int .i64 m.e, .int .i64 m.f]) := Lib.hid (by rw [← hU, ← hG]; exact Blk.new U6 _ _)
      have HB := Lib.hid (HB.out.alloc HS.out (.cells #[.int .i64 m.a, .int .i64 m.b, .int .i64 m.c, .int .i64 m.d, .int .i64 m.e, .int .i64 m.f] 23))
      rw [hU] at HB
      have HS : Hid (N ≤ U7.heap.size) := Lib.hid (Nat.le_trans HS.out (by rw [← hU, World.size_alloc]; exact Nat.le_succ _))
      rw [hU]
      clear hU hG
      go_cut [11, 12] from 36 to 41 (fun a5 a6 wx => ∃ G, a5 = .pointer (some ⟨G, 0, none⟩) ∧ a6 = .int .i64 r ∧ Hid (Blk wx G 25 #[.int .i64 u, .int .i64 v] ∧ Below N w wx ∧ N ≤ wx.heap.size ∧ Blk wx N 23 #[.int .i64 m.a, .int .i64 m.b, .int .i64 m.c, .int .i64 m.d, .int .i64 m.e, .int .i64 m.f] ∧ Blk wx P 25 #[.int .i64 x, .int .i64 y] ∧ Blk wx Gq 23 #[.int .i64 m.a, .int .i64 m.b, .int .i64 m.c, .int .i64 m.d, .int .i64 m.e, .int .i64 m.f] ∧ Blk wx Gs 23 #[.int .i64 m.a, .int .i64 m.b, .int .i64 m.c, .int .i64 m.d, .int .i64 m.e, .int .i64 m.f] ∧ Blk wx Go 23 #[.int .i64 m.a, .int .i64 m.b, .int .i64 m.c, .int .i64 m.d, .int .i64 m.e, .int .i64 m.f]))
      case first =>
        obtain ⟨Z, hZ⟩ : ∃ Z, U7.heap.size = Z := ⟨_, rfl⟩
        have HZ : Hid (Z ≤ U7.heap.size) := Lib.hid (Nat.le_of_eq hZ.symm)
        have HNZ : Hid (N ≤ Z) := Lib.hid (by rw [← hZ]; exact HS.out)
        have Ka := Lib.hid (show N < Z by rw [← hZ]; exact La.out.lt)
        have Kp := Lib.hid (show P < Z by rw [← hZ]; exact Lp.out.lt)
        have Kq := Lib.hid (show Gq < Z by rw [← hZ]; exact Lq.out.lt)
        have Ks := Lib.hid (show Gs < Z by rw [← hZ]; exact Ls.out.lt)
        have Ko := Lib.hid (show Go < Z by rw [← hZ]; exact Lo.out.lt)
        have HSv : Hid (∀ W2, Below Z U7 W2 → (W2.cell? ⟨P, 0, none⟩ = some (.int .i64 x) ∧ W2.cell? ⟨P, 1, none⟩ = some (.int .i64 y))) := Lib.hid (fun W2 hb2 => by
          obtain ⟨s0, s1⟩ := two_cells (Lp.out.below hb2 Kp.out)
          exact ⟨s0, s1⟩)
        clear hZ
        refine wp_region_held_drew (S := fun W2 => W2.cell? ⟨P, 0, none⟩ = some (.int .i64 x) ∧ W2.cell? ⟨P, 1, none⟩ = some (.int .i64 y)) (by kernel_rfl) (HSv.out _ ((Below.refl _ U7).drew)) (fun hHeld => ?_)
        obtain ⟨V0, hU⟩ : ∃ U, U7.drew = U := ⟨_, rfl⟩
        have HV0 : Hid (Below Z U7 V0) := Lib.hid (by rw [← hU]; exact (Below.refl _ U7).drew)
        rw [hU] at hHeld
        rw [hU]
        clear hU
        refine wpAnyH_take (i := 1) (v := ?_) rfl (by kernel_rfl) (by kernel_rfl) (by kernel_rfl) (fun _ _ _ h => h) (Or.inl ⟨by rfl, ?_⟩) hHeld ?_
        rotate_left
        · intro w hSw
          obtain ⟨s0, s1⟩ := hSw
          go_simp
          first | done | with_reducible rfl
        try simp only [Act.put, List.setIfInBounds_toArray]
        refine wpAnyH_ready (rs := [0, 6]) (by kernel_rfl) (by simp) ?_
        refine AllReadyH.cons rfl (fun K hK => ?_) ?_
        · go_simp
          refine (K0.out V0).mono ?_
          rintro e V1 ⟨rfl, hb⟩
          have HV1 : Hid (Below Z U7 V1) := Lib.hid (HV0.out.trans (hb.mono (Nat.le_trans HZ.out HV0.out.size)))
          refine hK.out _ _ (HSv.out _ HV1.out) (fun hHeld => ?_)
          clear hb hK K
          refine wpAnyH_ready (rs := [2, 6]) (by kernel_rfl) (by simp) ?_
          refine AllReadyH.cons rfl (fun K hK => ?_) ?_
          · go_simp
            refine (K3.out V1).mono ?_
            rintro e V2 ⟨rfl, hb⟩
            have HV2 : Hid (Below Z U7 V2) := Lib.hid (HV1.out.trans (hb.mono (Nat.le_trans HZ.out HV1.out.size)))
            refine hK.out _ _ (HSv.out _ HV2.out) (fun hHeld => ?_)
            clear hb hK K
            refine wpAnyH_take (i := 3) (v := ?_) rfl (by kernel_rfl) (by kernel_rfl) (by kernel_rfl) (fun _ _ _ h => h) (Or.inl ⟨by rfl, ?_⟩) hHeld ?_
            rotate_left
            · intro w hSw
              go_simp
              first | done | with_reducible rfl
            try simp only [Act.put, List.setIfInBounds_toArray]
            refine wpAnyH_take (i := 4) (v := ?_) rfl (by kernel_rfl) (by kernel_rfl) (by kernel_rfl) (fun _ _ _ h => h) (Or.inl ⟨by rfl, ?_⟩) hHeld ?_
            rotate_left
            · intro w hSw
              go_simp
              first | done | with_reducible rfl
            try simp only [Act.put]
            refine wpAnyH_take (i := 5) (v := ?_) rfl (by kernel_rfl) (by kernel_rfl) (by kernel_rfl) (fun _ _ _ h => h) (Or.inl ⟨by rfl, ?_⟩) hHeld ?_
            rotate_left
            · intro w hSw
              go_simp
              first | done | with_reducible rfl
            try simp only [Act.put]
            refine wpAnyH_ready (rs := [6]) (by kernel_rfl) (by simp) ?_
            refine AllReadyH.cons rfl (fun K hK => ?_) ?_
            · go_simp
              refine hK.out _ _ (HSv.out _ (HV2.out.alloc (Nat.le_trans HZ.out HV2.out.size) _)) (fun hHeld => ?_)
              clear hK K
              obtain ⟨G3, hG⟩ : ∃ G, V2.heap.size = G := ⟨_, rfl⟩
              obtain ⟨V3, hU⟩ : ∃ X, V2.alloc (.cells #[.int .i64 0, .int .i64 0] 25) = X := ⟨_, rfl⟩
              have HV3 : Hid (Below Z U7 V3) := Lib.hid (by rw [← hU]; exact HV2.out.alloc (Nat.le_trans HZ.out HV2.out.size) _)
              have HR3 : Hid (Blk V3 G3 25 #[.int .i64 0, .int .i64 0]) := Lib.hid (by rw [← hU, ← hG]; exact Blk.new V2 _ _)
              have HG3 : Hid (Z ≤ G3) := Lib.hid (by rw [← hG]; exact Nat.le_trans HZ.out HV2.out.size)
              rw [hU] at hHeld
              rw [hU, hG]
              clear hU hG
              refine wpAnyH_ready (rs := [7]) (by kernel_rfl) (by simp) ?_
              refine AllReadyH.cons rfl (fun K hK => ?_) ?_
              · have HGG := HG3.out
                obtain ⟨c0, c1⟩ := two_cells HR3.out
                obtain ⟨f0, f1⟩ := two_frozen HR3.out
                have HEnd : Hid (Blk ((V3.setCell ⟨G3, 0, none⟩ (.int .i64 u)).setCell ⟨G3, 1, none⟩ (.int .i64 v)) G3 25 #[.int .i64 u, .int .i64 v] ∧ Below N w ((V3.setCell ⟨G3, 0, none⟩ (.int .i64 u)).setCell ⟨G3, 1, none⟩ (.int .i64 v)) ∧ N ≤ ((V3.setCell ⟨G3, 0, none⟩ (.int .i64 u)).setCell ⟨G3, 1, none⟩ (.int .i64 v)).heap.size ∧ Blk ((V3.setCell ⟨G3, 0, none⟩ (.int .i64 u)).setCell ⟨G3, 1, none⟩ (.int .i64 v)) N 23 #[.int .i64 m.a, .int .i64 m.b, .int .i64 m.c, .int .i64 m.d, .int .i64 m.e, .int .i64 m.f] ∧ Blk ((V3.setCell ⟨G3, 0, none⟩ (.int .i64 u)).setCell ⟨G3, 1, none⟩ (.int .i64 v)) P 25 #[.int .i64 x, .int .i64 y] ∧ Blk ((V3.setCell ⟨G3, 0, none⟩ (.int .i64 u)).setCell ⟨G3, 1, none⟩ (.int .i64 v)) Gq 23 #[.int .i64 m.a, .int .i64 m.b, .int .i64 m.c, .int .i64 m.d, .int .i64 m.e, .int .i64 m.f] ∧ Blk ((V3.setCell ⟨G3, 0, none⟩ (.int .i64 u)).setCell ⟨G3, 1, none⟩ (.int .i64 v)) Gs 23 #[.int .i64 m.a, .int .i64 m.b, .int .i64 m.c, .int .i64 m.d, .int .i64 m.e, .int .i64 m.f] ∧ Blk ((V3.setCell ⟨G3, 0, none⟩ (.int .i64 u)).setCell ⟨G3, 1, none⟩ (.int .i64 v)) Go 23 #[.int .i64 m.a, .int .i64 m.b, .int .i64 m.c, .int .i64 m.d, .int .i64 m.e, .int .i64 m.f]) := Lib.hid ⟨((HR3.out.set_ 0 _).set_ 1 _), ((HB.out.trans (HV3.out.mono HNZ.out)).setCell (p := ⟨G3, 0, none⟩) (Nat.le_trans HNZ.out HGG) _).setCell (p := ⟨G3, 1, none⟩) (Nat.le_trans HNZ.out HGG) _, Nat.le_trans HNZ.out (Nat.le_trans HGG (Nat.le_of_lt (((HR3.out.set_ 0 _).set_ 1 _)).lt)), (((La.out.below HV3.out Ka.out).far (p := ⟨G3, 0, none⟩) (show N ≠ G3 by have := Ka.out; omega) _).far (p := ⟨G3, 1, none⟩) (show N ≠ G3 by have := Ka.out; omega) _), (((Lp.out.below HV3.out Kp.out).far (p := ⟨G3, 0, none⟩) (show P ≠ G3 by have := Kp.out; omega) _).far (p := ⟨G3, 1, none⟩) (show P ≠ G3 by have := Kp.out; omega) _), (((Lq.out.below HV3.out Kq.out).far (p := ⟨G3, 0, none⟩) (show Gq ≠ G3 by have := Kq.out; omega) _).far (p := ⟨G3, 1, none⟩) (show Gq ≠ G3 by have := Kq.out; omega) _), (((Ls.out.below HV3.out Ks.out).far (p := ⟨G3, 0, none⟩) (show Gs ≠ G3 by have := Ks.out; omega) _).far (p := ⟨G3, 1, none⟩) (show Gs ≠ G3 by have := Ks.out; omega) _), (((Lo.out.below HV3.out Ko.out).far (p := ⟨G3, 0, none⟩) (show Go ≠ G3 by have := Ko.out; omega) _).far (p := ⟨G3, 1, none⟩) (show Go ≠ G3 by have := Ko.out; omega) _)⟩
                have hS2 : (fun W2 : World => W2.cell? ⟨P, 0, none⟩ = some (.int .i64 x) ∧ W2.cell? ⟨P, 1, none⟩ = some (.int .i64 y)) ((V3.setCell ⟨G3, 0, none⟩ (.int .i64 u)).setCell ⟨G3, 1, none⟩ (.int .i64 v)) := by
                  obtain ⟨s0, s1⟩ := two_cells (HEnd.out.2.2.2.2.1)
                  exact ⟨s0, s1⟩
                have HS2 := Lib.hid hS2
                clear hS2 HGG
                go_simp
                refine hK.out _ _ HS2.out (fun hHeld => ?_)
                clear hK K
                refine wpAnyH_take (i := 8) (v := ?_) rfl (by kernel_rfl) (by kernel_rfl) (by kernel_rfl) (fun _ _ _ h => h) (Or.inl ⟨by rfl, ?_⟩) hHeld ?_
                rotate_left
                · intro w hSw
                  go_simp
                  first | done | with_reducible rfl
                try simp only [Act.put, List.setIfInBounds_toArray]
                refine wpAnyH_done (by kernel_rfl) ?_ _
                go_wp2_with fail
                go_meet
                exact ⟨G3, rfl, rfl, HEnd⟩
              exact AllReadyH.nil
            exact AllReadyH.nil
          refine AllReadyH.cons rfl (fun K hK => ?_) ?_
          · go_simp
            refine hK.out _ _ (HSv.out _ (HV1.out.alloc (Nat.le_trans HZ.out HV1.out.size) _)) (fun hHeld => ?_)
            clear hK K
            obtain ⟨G5, hG⟩ : ∃ G, V1.heap.size = G := ⟨_, rfl⟩
            obtain ⟨V5, hU⟩ : ∃ X, V1.alloc (.cells #[.int .i64 0, .int .i64 0] 25) = X := ⟨_, rfl⟩
            have HV5 : Hid (Below Z U7 V5) := Lib.hid (by rw [← hU]; exact HV1.out.alloc (Nat.le_trans HZ.out HV1.out.size) _)
            have HR5 : Hid (Blk V5 G5 25 #[.int .i64 0, .int .i64 0]) := Lib.hid (by rw [← hU, ← hG]; exact Blk.new V1 _ _)
            have HG5 : Hid (Z ≤ G5) := Lib.hid (by rw [← hG]; exact Nat.le_trans HZ.out HV1.out.size)
            rw [hU] at hHeld
            rw [hU, hG]
            clear hU hG
            refine wpAnyH_ready (rs := [2]) (by kernel_rfl) (by simp) ?_
            refine AllReadyH.cons rfl (fun K hK => ?_) ?_
            · go_simp
              refine (K3.out V5).mono ?_
              rintro e V6 ⟨rfl, hb⟩
              have HV6 : Hid (Below Z U7 V6) := Lib.hid (HV5.out.trans (hb.mono (Nat.le_trans HZ.out HV5.out.size)))
              have HR6 := Lib.hid (HR5.out.below hb HR5.out.lt)
              refine hK.out _ _ (HSv.out _ HV6.out) (fun hHeld => ?_)
              clear hb hK K
              refine wpAnyH_take (i := 3) (v := ?_) rfl (by kernel_rfl) (by kernel_rfl) (by kernel_rfl) (fun _ _ _ h => h) (Or.inl ⟨by rfl, ?_⟩) hHeld ?_
              rotate_left
              · intro w hSw
                go_simp
                first | done | with_reducible rfl
              try simp only [Act.put, List.setIfInBounds_toArray]
              refine wpAnyH_take (i := 4) (v := ?_) rfl (by kernel_rfl) (by kernel_rfl) (by kernel_rfl) (fun _ _ _ h => h) (Or.inl ⟨by rfl, ?_⟩) hHeld ?_
              rotate_left
              · intro w hSw
                go_simp
                first | done | with_reducible rfl
              try simp only [Act.put]
              refine wpAnyH_take (i := 5) (v := ?_) rfl (by kernel_rfl) (by kernel_rfl) (by kernel_rfl) (fun _ _ _ h => h) (Or.inl ⟨by rfl, ?_⟩) hHeld ?_
              rotate_left
              · intro w hSw
                go_simp
                first | done | with_reducible rfl
              try simp only [Act.put]
              refine wpAnyH_ready (rs := [7]) (by kernel_rfl) (by simp) ?_
              refine AllReadyH.cons rfl (fun K hK => ?_) ?_
              · have HGG := HG5.out
                obtain ⟨c0, c1⟩ := two_cells HR6.out
                obtain ⟨f0, f1⟩ := two_frozen HR6.out
                have HEnd : Hid (Blk ((V6.setCell ⟨G5, 0, none⟩ (.int .i64 u)).setCell ⟨G5, 1, none⟩ (.int .i64 v)) G5 25 #[.int .i64 u, .int .i64 v] ∧ Below N w ((V6.setCell ⟨G5, 0, none⟩ (.int .i64 u)).setCell ⟨G5, 1, none⟩ (.int .i64 v)) ∧ N ≤ ((V6.setCell ⟨G5, 0, none⟩ (.int .i64 u)).setCell ⟨G5, 1, none⟩ (.int .i64 v)).heap.size ∧ Blk ((V6.setCell ⟨G5, 0, none⟩ (.int .i64 u)).setCell ⟨G5, 1, none⟩ (.int .i64 v)) N 23 #[.int .i64 m.a, .int .i64 m.b, .int .i64 m.c, .int .i64 m.d, .int .i64 m.e, .int .i64 m.f] ∧ Blk ((V6.setCell ⟨G5, 0, none⟩ (.int .i64 u)).setCell ⟨G5, 1, none⟩ (.int .i64 v)) P 25 #[.int .i64 x, .int .i64 y] ∧ Blk ((V6.setCell ⟨G5, 0, none⟩ (.int .i64 u)).setCell ⟨G5, 1, none⟩ (.int .i64 v)) Gq 23 #[.int .i64 m.a, .int .i64 m.b, .int .i64 m.c, .int .i64 m.d, .int .i64 m.e, .int .i64 m.f] ∧ Blk ((V6.setCell ⟨G5, 0, none⟩ (.int .i64 u)).setCell ⟨G5, 1, none⟩ (.int .i64 v)) Gs 23 #[.int .i64 m.a, .int .i64 m.b, .int .i64 m.c, .int .i64 m.d, .int .i64 m.e, .int .i64 m.f] ∧ Blk ((V6.setCell ⟨G5, 0, none⟩ (.int .i64 u)).setCell ⟨G5, 1, none⟩ (.int .i64 v)) Go 23 #[.int .i64 m.a, .int .i64 m.b, .int .i64 m.c, .int .i64 m.d, .int .i64 m.e, .int .i64 m.f]) := Lib.hid ⟨((HR6.out.set_ 0 _).set_ 1 _), ((HB.out.trans (HV6.out.mono HNZ.out)).setCell (p := ⟨G5, 0, none⟩) (Nat.le_trans HNZ.out HGG) _).setCell (p := ⟨G5, 1, none⟩) (Nat.le_trans HNZ.out HGG) _, Nat.le_trans HNZ.out (Nat.le_trans HGG (Nat.le_of_lt (((HR6.out.set_ 0 _).set_ 1 _)).lt)), (((La.out.below HV6.out Ka.out).far (p := ⟨G5, 0, none⟩) (show N ≠ G5 by have := Ka.out; omega) _).far (p := ⟨G5, 1, none⟩) (show N ≠ G5 by have := Ka.out; omega) _), (((Lp.out.below HV6.out Kp.out).far (p := ⟨G5, 0, none⟩) (show P ≠ G5 by have := Kp.out; omega) _).far (p := ⟨G5, 1, none⟩) (show P ≠ G5 by have := Kp.out; omega) _), (((Lq.out.below HV6.out Kq.out).far (p := ⟨G5, 0, none⟩) (show Gq ≠ G5 by have := Kq.out; omega) _).far (p := ⟨G5, 1, none⟩) (show Gq ≠ G5 by have := Kq.out; omega) _), (((Ls.out.below HV6.out Ks.out).far (p := ⟨G5, 0, none⟩) (show Gs ≠ G5 by have := Ks.out; omega) _).far (p := ⟨G5, 1, none⟩) (show Gs ≠ G5 by have := Ks.out; omega) _), (((Lo.out.below HV6.out Ko.out).far (p := ⟨G5, 0, none⟩) (show Go ≠ G5 by have := Ko.out; omega) _).far (p := ⟨G5, 1, none⟩) (show Go ≠ G5 by have := Ko.out; omega) _)⟩
                have hS2 : (fun W2 : World => W2.cell? ⟨P, 0, none⟩ = some (.int .i64 x) ∧ W2.cell? ⟨P, 1, none⟩ = some (.int .i64 y)) ((V6.setCell ⟨G5, 0, none⟩ (.int .i64 u)).setCell ⟨G5, 1, none⟩ (.int .i64 v)) := by
                  obtain ⟨s0, s1⟩ := two_cells (HEnd.out.2.2.2.2.1)
                  exact ⟨s0, s1⟩
                have HS2 := Lib.hid hS2
                clear hS2 HGG
                go_simp
                refine hK.out _ _ HS2.out (fun hHeld => ?_)
                clear hK K
                refine wpAnyH_take (i := 8) (v := ?_) rfl (by kernel_rfl) (by kernel_rfl) (by kernel_rfl) (fun _ _ _ h => h) (Or.inl ⟨by rfl, ?_⟩) hHeld ?_
                rotate_left
                · intro w hSw
                  go_simp
                  first | done | with_reducible rfl
                try simp only [Act.put, List.setIfInBounds_toArray]
                refine wpAnyH_done (by kernel_rfl) ?_ _
                go_wp2_with fail
                go_meet
                exact ⟨G5, rfl, rfl, HEnd⟩
              exact AllReadyH.nil
            exact AllReadyH.nil
          exact AllReadyH.nil
        refine AllReadyH.cons rfl (fun K hK => ?_) ?_
        · go_simp
          refine hK.out _ _ (HSv.out _ (HV0.out.alloc (Nat.le_trans HZ.out HV0.out.size) _)) (fun hHeld => ?_)
          clear hK K
          obtain ⟨G8, hG⟩ : ∃ G, V0.heap.size = G := ⟨_, rfl⟩
          obtain ⟨V8, hU⟩ : ∃ X, V0.alloc (.cells #[.int .i64 0, .int .i64 0] 25) = X := ⟨_, rfl⟩
          have HV8 : Hid (Below Z U7 V8) := Lib.hid (by rw [← hU]; exact HV0.out.alloc (Nat.le_trans HZ.out HV0.out.size) _)
          have HR8 : Hid (Blk V8 G8 25 #[.int .i64 0, .int .i64 0]) := Lib.hid (by rw [← hU, ← hG]; exact Blk.new V0 _ _)
          have HG8 : Hid (Z ≤ G8) := Lib.hid (by rw [← hG]; exact Nat.le_trans HZ.out HV0.out.size)
          rw [hU] at hHeld
          rw [hU, hG]
          clear hU hG
          refine wpAnyH_ready (rs := [0]) (by kernel_rfl) (by simp) ?_
          refine AllReadyH.cons rfl (fun K hK => ?_) ?_
          · go_simp
            refine (K0.out V8).mono ?_
            rintro e V9 ⟨rfl, hb⟩
            have HV9 : Hid (Below Z U7 V9) := Lib.hid (HV8.out.trans (hb.mono (Nat.le_trans HZ.out HV8.out.size)))
            have HR9 := Lib.hid (HR8.out.below hb HR8.out.lt)
            refine hK.out _ _ (HSv.out _ HV9.out) (fun hHeld => ?_)
            clear hb hK K
            refine wpAnyH_ready (rs := [2]) (by kernel_rfl) (by simp) ?_
            refine AllReadyH.cons rfl (fun K hK => ?_) ?_
            · go_simp
              refine (K3.out V9).mono ?_
              rintro e V10 ⟨rfl, hb⟩
              have HV10 : Hid (Below Z U7 V10) := Lib.hid (HV9.out.trans (hb.mono (Nat.le_trans HZ.out HV9.out.size)))
              have HR10 := Lib.hid (HR9.out.below hb HR9.out.lt)
              refine hK.out _ _ (HSv.out _ HV10.out) (fun hHeld => ?_)
              clear hb hK K
              refine wpAnyH_take (i := 3) (v := ?_) rfl (by kernel_rfl) (by kernel_rfl) (by kernel_rfl) (fun _ _ _ h => h) (Or.inl ⟨by rfl, ?_⟩) hHeld ?_
              rotate_left
              · intro w hSw
                go_simp
                first | done | with_reducible rfl
              try simp only [Act.put, List.setIfInBounds_toArray]
              refine wpAnyH_take (i := 4) (v := ?_) rfl (by kernel_rfl) (by kernel_rfl) (by kernel_rfl) (fun _ _ _ h => h) (Or.inl ⟨by rfl, ?_⟩) hHeld ?_
              rotate_left
              · intro w hSw
                go_simp
                first | done | with_reducible rfl
              try simp only [Act.put]
              refine wpAnyH_take (i := 5) (v := ?_) rfl (by kernel_rfl) (by kernel_rfl) (by kernel_rfl) (fun _ _ _ h => h) (Or.inl ⟨by rfl, ?_⟩) hHeld ?_
              rotate_left
              · intro w hSw
                go_simp
                first | done | with_reducible rfl
              try simp only [Act.put]
              refine wpAnyH_ready (rs := [7]) (by kernel_rfl) (by simp) ?_
              refine AllReadyH.cons rfl (fun K hK => ?_) ?_
              · have HGG := HG8.out
                obtain ⟨c0, c1⟩ := two_cells HR10.out
                obtain ⟨f0, f1⟩ := two_frozen HR10.out
                have HEnd : Hid (Blk ((V10.setCell ⟨G8, 0, none⟩ (.int .i64 u)).setCell ⟨G8, 1, none⟩ (.int .i64 v)) G8 25 #[.int .i64 u, .int .i64 v] ∧ Below N w ((V10.setCell ⟨G8, 0, none⟩ (.int .i64 u)).setCell ⟨G8, 1, none⟩ (.int .i64 v)) ∧ N ≤ ((V10.setCell ⟨G8, 0, none⟩ (.int .i64 u)).setCell ⟨G8, 1, none⟩ (.int .i64 v)).heap.size ∧ Blk ((V10.setCell ⟨G8, 0, none⟩ (.int .i64 u)).setCell ⟨G8, 1, none⟩ (.int .i64 v)) N 23 #[.int .i64 m.a, .int .i64 m.b, .int .i64 m.c, .int .i64 m.d, .int .i64 m.e, .int .i64 m.f] ∧ Blk ((V10.setCell ⟨G8, 0, none⟩ (.int .i64 u)).setCell ⟨G8, 1, none⟩ (.int .i64 v)) P 25 #[.int .i64 x, .int .i64 y] ∧ Blk ((V10.setCell ⟨G8, 0, none⟩ (.int .i64 u)).setCell ⟨G8, 1, none⟩ (.int .i64 v)) Gq 23 #[.int .i64 m.a, .int .i64 m.b, .int .i64 m.c, .int .i64 m.d, .int .i64 m.e, .int .i64 m.f] ∧ Blk ((V10.setCell ⟨G8, 0, none⟩ (.int .i64 u)).setCell ⟨G8, 1, none⟩ (.int .i64 v)) Gs 23 #[.int .i64 m.a, .int .i64 m.b, .int .i64 m.c, .int .i64 m.d, .int .i64 m.e, .int .i64 m.f] ∧ Blk ((V10.setCell ⟨G8, 0, none⟩ (.int .i64 u)).setCell ⟨G8, 1, none⟩ (.int .i64 v)) Go 23 #[.int .i64 m.a, .int .i64 m.b, .int .i64 m.c, .int .i64 m.d, .int .i64 m.e, .int .i64 m.f]) := Lib.hid ⟨((HR10.out.set_ 0 _).set_ 1 _), ((HB.out.trans (HV10.out.mono HNZ.out)).setCell (p := ⟨G8, 0, none⟩) (Nat.le_trans HNZ.out HGG) _).setCell (p := ⟨G8, 1, none⟩) (Nat.le_trans HNZ.out HGG) _, Nat.le_trans HNZ.out (Nat.le_trans HGG (Nat.le_of_lt (((HR10.out.set_ 0 _).set_ 1 _)).lt)), (((La.out.below HV10.out Ka.out).far (p := ⟨G8, 0, none⟩) (show N ≠ G8 by have := Ka.out; omega) _).far (p := ⟨G8, 1, none⟩) (show N ≠ G8 by have := Ka.out; omega) _), (((Lp.out.below HV10.out Kp.out).far (p := ⟨G8, 0, none⟩) (show P ≠ G8 by have := Kp.out; omega) _).far (p := ⟨G8, 1, none⟩) (show P ≠ G8 by have := Kp.out; omega) _), (((Lq.out.below HV10.out Kq.out).far (p := ⟨G8, 0, none⟩) (show Gq ≠ G8 by have := Kq.out; omega) _).far (p := ⟨G8, 1, none⟩) (show Gq ≠ G8 by have := Kq.out; omega) _), (((Ls.out.below HV10.out Ks.out).far (p := ⟨G8, 0, none⟩) (show Gs ≠ G8 by have := Ks.out; omega) _).far (p := ⟨G8, 1, none⟩) (show Gs ≠ G8 by have := Ks.out; omega) _), (((Lo.out.below HV10.out Ko.out).far (p := ⟨G8, 0, none⟩) (show Go ≠ G8 by have := Ko.out; omega) _).far (p := ⟨G8, 1, none⟩) (show Go ≠ G8 by have := Ko.out; omega) _)⟩
                have hS2 : (fun W2 : World => W2.cell? ⟨P, 0, none⟩ = some (.int .i64 x) ∧ W2.cell? ⟨P, 1, none⟩ = some (.int .i64 y)) ((V10.setCell ⟨G8, 0, none⟩ (.int .i64 u)).setCell ⟨G8, 1, none⟩ (.int .i64 v)) := by
                  obtain ⟨s0, s1⟩ := two_cells (HEnd.out.2.2.2.2.1)
                  exact ⟨s0, s1⟩
                have HS2 := Lib.hid hS2
                clear hS2 HGG
                go_simp
                refine hK.out _ _ HS2.out (fun hHeld => ?_)
                clear hK K
                refine wpAnyH_take (i := 8) (v := ?_) rfl (by kernel_rfl) (by kernel_rfl) (by kernel_rfl) (fun _ _ _ h => h) (Or.inl ⟨by rfl, ?_⟩) hHeld ?_
                rotate_left
                · intro w hSw
                  go_simp
                  first | done | with_reducible rfl
                try simp only [Act.put, List.setIfInBounds_toArray]
                refine wpAnyH_done (by kernel_rfl) ?_ _
                go_wp2_with fail
                go_meet
                exact ⟨G8, rfl, rfl, HEnd⟩
              exact AllReadyH.nil
            exact AllReadyH.nil
          exact AllReadyH.nil
        exact AllReadyH.nil
      case rest =>
        obtain ⟨U8, rfl⟩ : ∃ X, X = wc := ⟨_, rfl⟩
        obtain ⟨Gd, rfl, rfl, HCut⟩ := hcut
        have HB := Lib.hid HCut.out.2.1
        have HS := Lib.hid HCut.out.2.2.1
        have La := Lib.hid (HCut.out.2.2.2.1)
        have Lp := Lib.hid (HCut.out.2.2.2.2.1)
        have Lq := Lib.hid (HCut.out.2.2.2.2.2.1)
        have Ls := Lib.hid (HCut.out.2.2.2.2.2.2.1)
        have Lo := Lib.hid (HCut.out.2.2.2.2.2.2.2)
        have Ld := Lib.hid HCut.out.1
        clear HCut
        go_upto_region 9 with fail
        obtain ⟨ac0, ac1, ac2, ac3, ac4, ac5⟩ := (six_cells La.out).1
        obtain ⟨qc0, qc1, qc2, qc3, qc4, qc5⟩ := (six_cells Lq.out).1
        obtain ⟨sc0, sc1, sc2, sc3, sc4, sc5⟩ := (six_cells Ls.out).1
        obtain ⟨oc0, oc1, oc2, oc3, oc4, oc5⟩ := (six_cells Lo.out).1
        go_upto_region 11 with fail
        clear ac0 ac1 ac2 ac3 ac4 ac5 qc0 qc1 qc2 qc3 qc4 qc5 sc0 sc1 sc2 sc3 sc4 sc5 oc0 oc1 oc2 oc3 oc4 oc5
        obtain ⟨pc0, pc1⟩ := two_cells Lp.out
        obtain ⟨dc0, dc1⟩ := two_cells Ld.out
        rcases HCase.out with ⟨rfl, rfl, rfl, i1, i2⟩ | ⟨rfl, hout⟩
        · have j1 := inRange_yes i1
          have j2 := inRange_yes i2
          have l1 : ¬ u < -1073741824 := by omega
          have l2 : ¬ 1073741824 < u := by omega
          have l3 : ¬ v < -1073741824 := by omega
          have l4 : ¬ 1073741824 < v := by omega
          clear i1 i2 j1 j2
          go_wp2_with fail
          go_ret
          exact ⟨rfl, HB.out⟩
        · rcases out_four hout with l1 | ⟨l1, l2⟩ | ⟨l1, l2, l3⟩ | ⟨l1, l2, l3, l4⟩
          · clear hout
            go_wp2_with fail
            go_ret
            exact ⟨rfl, HB.out⟩
          · clear hout
            go_wp2_with fail
            go_ret
            exact ⟨rfl, HB.out⟩
          · clear hout
            go_wp2_with fail
            go_ret
            exact ⟨rfl, HB.out⟩
          · clear hout
            go_wp2_with fail
            go_ret
            exact ⟨rfl, HB.out⟩

theorem ones_any (m : Mx) (x y : Int) (w : World) :
    Calls Try.prog 4 #[mxV m, ptV x y] w fun e w' => e = .returned (.bool true) ∧ Below w.heap.size w w' := by
  by_cases hm : okM m = true
  · rcases one_pt x y with ⟨h1, h2, h3, h4⟩ | ⟨h1, h3, h4⟩
    · exact ones_ok m x y x y 0 w hm h3 h4 (.inl ⟨rfl, rfl, rfl, h1, h2⟩)
    · exact ones_ok m x y 0 0 2 w hm h3 h4 (.inr ⟨rfl, h1⟩)
  · exact ones_bad m x y w hm
end Go.Proofs.Ytghmchcoegidkaa
