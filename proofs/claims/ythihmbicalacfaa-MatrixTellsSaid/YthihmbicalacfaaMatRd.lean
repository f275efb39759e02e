/-
  matrix, the document's: Length, by halving.
-/
import Derived.Test.YthihmbicalacfaaMatRc
namespace Go.Proofs.Ythihmbicalacfaa
open Go.RowKit Fix Mat

set_option maxRecDepth 100000 in
set_option maxHeartbeats 8000000 in
theorem length42 (m : Mx) (x y n r : Int) (w : World) (h : LenIs m x y n r) :
    Calls Try.prog 16 #[mxV m, ptV x y] w fun e w' => e = .returned (.tuple #[.int .i64 n, .int .i64 r]) ∧ Below w.heap.size w w' := by
  obtain ⟨N, hN⟩ : ∃ N, w.heap.size = N := ⟨_, rfl⟩
  obtain ⟨B, hB⟩ : ∃ B, N + 1 = B := ⟨_, rfl⟩
  obtain ⟨V, hV⟩ : ∃ V, (w.alloc (.cells #[.int .i64 m.a, .int .i64 m.b, .int .i64 m.c, .int .i64 m.d, .int .i64 m.e, .int .i64 m.f] 23)).alloc (.cells #[.int .i64 x, .int .i64 y] 25) = V := ⟨_, rfl⟩
  have hVs : V.heap.size = B + 1 := by rw [← hV]; simp [hN]; omega
  have bA : Blk V N 23 #[.int .i64 m.a, .int .i64 m.b, .int .i64 m.c, .int .i64 m.d, .int .i64 m.e, .int .i64 m.f] := by
    rw [← hV, ← hN]
    exact (Blk.new w _ _).alloc _
  have bB : Blk V B 25 #[.int .i64 x, .int .i64 y] := by
    rw [← hV]
    have := Blk.new (w.alloc (.cells #[.int .i64 m.a, .int .i64 m.b, .int .i64 m.c, .int .i64 m.d, .int .i64 m.e, .int .i64 m.f] 23)) 25 #[.int .i64 x, .int .i64 y]
    rw [World.size_alloc, hN, hB] at this
    exact this
  have hBV : Below N w V := by
    rw [← hV, ← hN]
    exact ((Below.refl _ w).alloc (Nat.le_refl _) _).alloc (by simp) _
  have HVs := Lib.hid hVs
  have HBV := Lib.hid hBV
  have HNB := Lib.hid (show N ≠ B ∧ N ≤ B ∧ N < B + 1 by omega)
  have HA := Lib.hid bA
  have HP := Lib.hid bB
  have HH := Lib.hid h
  rw [hN]
  unfold mxV ptV
  go_enter Try.func16, Try.ntmps16
  go_upto_region 1 with fail
  clear bA bB hBV hVs hV hN h hB
  obtain ⟨⟨a0, a1, a2, a3, a4, a5⟩, ⟨f0, f1, f2, f3, f4, f5⟩⟩ := six_cells HA.out
  go_upto_region 2 with fail
  obtain ⟨U, hU⟩ : ∃ U, (V.setCell ⟨N, 4, none⟩ (.int .i64 0)).setCell ⟨N, 5, none⟩ (.int .i64 0) = U := ⟨_, rfl⟩
  have hUs : U.heap.size = B + 1 := by rw [← hU]; simp [HVs.out]
  have HAU := Lib.hid (show Blk U N 23 #[.int .i64 m.a, .int .i64 m.b, .int .i64 m.c, .int .i64 m.d, .int .i64 0, .int .i64 0] by rw [← hU]; exact (HA.out.set_ 4 _).set_ 5 _)
  have HPU := Lib.hid (show Blk U B 25 #[.int .i64 x, .int .i64 y] by rw [← hU]; exact (HP.out.far (p := ⟨N, 4, none⟩) (fun e => HNB.out.1 e.symm) _).far (p := ⟨N, 5, none⟩) (fun e => HNB.out.1 e.symm) _)
  have HBU := Lib.hid (show Below N w U by rw [← hU]; exact (HBV.out.setCell (p := ⟨N, 4, none⟩) (Nat.le_refl _) _).setCell (p := ⟨N, 5, none⟩) (Nat.le_refl _) _)
  have HUs := Lib.hid hUs
  rw [hU]
  clear a0 a1 a2 a3 a4 a5 f0 f1 f2 f3 f4 f5 hU hUs HA HP HBV HVs
  obtain ⟨⟨a0, a1, a2, a3, a4, a5⟩, _⟩ := six_cells HAU.out
  obtain ⟨b0, b1⟩ := two_cells HPU.out
  obtain ⟨u, v, huv⟩ : ∃ u v, appP (flatM m) x y = (u, v) := ⟨_, _, rfl⟩
  obtain ⟨q, hq⟩ : ∃ q, appX (flatM m) x y = q := ⟨_, rfl⟩
  have HAp := Lib.hid (app42 (flatM m) x y u v q U huv hq)
  have HU2 := Lib.hid huv
  have HQ := Lib.hid hq
  unfold ptR ptV at HAp
  clear huv hq
  go_wp2_with fail
  refine HAp.out.mono ?_
  rintro e W ⟨rfl, hb⟩
  have HBW := Lib.hid (HBU.out.trans (hb.mono (by rw [HUs.out]; exact Nat.le_of_lt HNB.out.2.2)))
  have HWN := Lib.hid (show N ≤ W.heap.size by have := hb.size; rw [HUs.out] at this; have := HNB.out; omega)
  clear hb a0 a1 a2 a3 a4 a5 b0 b1
  rcases HH.out with ⟨ho, s, hs, hcase⟩ | ⟨ho, rfl, rfl⟩
  · obtain rfl : q = 0 := by rw [← HQ.out]; unfold appX; rw [if_pos ho]
    have e0 : (appA (flatM m) x y, appB (flatM m) x y) = (u, v) := by rw [← HU2.out]; unfold appP; rw [if_pos ho]
    injection e0 with e3 e4
    rw [e3, e4] at hs
    obtain ⟨i1, i2⟩ := app_in ho
    rw [e3] at i1
    rw [e4] at i2
    have k1 := sq_bound i1
    have k2 := sq_bound i2
    have hw1 : IntKind.i64.wrap (u * u) = u * u := IntWalk.i64_in _ (by omega)
    have hw2 : IntKind.i64.wrap (v * v) = v * v := IntWalk.i64_in _ (by omega)
    have hw3 : IntKind.i64.wrap (u * u + v * v) = u * u + v * v := IntWalk.i64_in _ (by omega)
    have HK := Lib.hid (show 0 ≤ u * u + v * v ∧ u * u + v * v ≤ 2305843009213693952 by omega)
    have HS := Lib.hid hs
    have HCase := Lib.hid hcase
    clear hs e3 e4 i1 i2 k1 k2 ho hcase HH
    go_upto_region 6 with fail
    obtain ⟨W2, hW2⟩ : ∃ X, W.alloc (.cells #[.int .i64 u, .int .i64 v] 25) = X := ⟨_, rfl⟩
    have HBF := Lib.hid (show Below N w W2 by rw [← hW2]; exact HBW.out.alloc HWN.out _)
    obtain ⟨t, ht⟩ : ∃ t, u * u + v * v = t := ⟨_, rfl⟩
    rw [ht] at HK HS ⊢
    rw [hW2]
    clear hw1 hw2 hw3 ht hW2
    go_wp2_with fail
    go_loopw [9, 10] (fun a b wr => ∃ (l k : Int), a = .int .i64 l ∧ b = .int .i64 k ∧ Hid (0 ≤ l ∧ l ≤ k ∧ k ≤ 2147483648 ∧ l * l ≤ t ∧ t < (k + 1) * (k + 1)) ∧ wr = W2) (fun a b _ => (intOf b - intOf a).toNat)
    case atStart => exact ⟨0, 2147483648, rfl, rfl, Lib.hid ⟨by omega, by omega, by omega, by have := HK.out; omega, by have := HK.out; omega⟩, rfl⟩
    case round =>
      obtain ⟨l, k, rfl, rfl, hinv, rfl⟩ := hrel
      by_cases hlt : l < k
      · obtain ⟨j0, j1, j2, j3, j4⟩ := hinv.out
        obtain ⟨c, hc⟩ : ∃ c, (l + k + 1).tdiv 2 = c := ⟨_, rfl⟩
        have hcE : c = (l + k + 1) / 2 := by rw [← hc]; exact Int.tdiv_eq_ediv_of_nonneg (by omega)
        have b1 : l < c := by omega
        have b2 : c ≤ k := by omega
        have hcc : c * c ≤ 2147483648 * 2147483648 := Int.mul_le_mul (by omega) (by omega) (by omega) (by omega)
        have hcc0 : 0 ≤ c * c := Int.mul_nonneg (by omega) (by omega)
        have g0 : IntKind.i64.wrap (l + k) = l + k := IntWalk.i64_in _ (by omega)
        have g1 : IntKind.i64.wrap (l + k + 1) = l + k + 1 := IntWalk.i64_in _ (by omega)
        have g2 : IntKind.i64.wrap c = c := IntWalk.i64_in _ (by omega)
        have g3 : IntKind.i64.wrap (c * c) = c * c := IntWalk.i64_in _ (by omega)
        have g4 : IntKind.i64.wrap (c - 1) = c - 1 := IntWalk.i64_in _ (by omega)
        have HB1 := Lib.hid (And.intro b1 (And.intro b2 (And.intro j0 (And.intro j2 (And.intro j3 j4)))))
        clear hcE hcc hcc0 b1 b2 j0 j1 j2 j3 j4 hinv
        by_cases hle : c * c ≤ t
        · go_wp2_with fail
          clear g0 g1 g2 g3 g4 hc
          go_roundw
          case rel => exact ⟨c, k, rfl, rfl, Lib.hid (by obtain ⟨q1, q2, q3, q4, q5, q6⟩ := HB1.out; exact ⟨by omega, by omega, by omega, hle, q6⟩), trivial⟩
          case measure => have := HB1.out; simp [intOf]; omega
        · go_wp2_with fail
          clear g0 g1 g2 g3 g4 hc
          go_roundw
          case rel => exact ⟨l, c - 1, rfl, rfl, Lib.hid (by obtain ⟨q1, q2, q3, q4, q5, q6⟩ := HB1.out; exact ⟨by omega, by omega, by omega, q5, by rw [show c - 1 + 1 = c by omega]; omega⟩), trivial⟩
          case measure => have := HB1.out; simp [intOf]; omega
      · obtain ⟨j0, j1, j2, j3, j4⟩ := hinv.out
        obtain rfl : l = k := by omega
        obtain ⟨s0, s1, s2⟩ := HS.out
        obtain rfl : l = s := root_unique t l s j0 s0 j3 j4 s1 s2
        clear j0 j1 j2 j3 j4 s0 s1 s2 hinv
        rcases HCase.out with ⟨hle, rfl, rfl⟩ | ⟨hgt, rfl, rfl⟩
        · have hn2 : ¬ 1073741824 < n := by omega
          go_wp2_with fail
          go_ret2
          exact ⟨rfl, HBF.out⟩
        · go_wp2_with fail
          go_ret2
          exact ⟨rfl, HBF.out⟩
  · obtain rfl : q = 2 := by rw [← HQ.out]; unfold appX; rw [ho]; rfl
    clear ho
    go_wp2_with fail
    go_ret2
    exact ⟨rfl, HBW.out.alloc HWN.out _⟩
end Go.Proofs.Ythihmbicalacfaa
