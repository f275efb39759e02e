/-
  matrix: Apply, root, Length.
-/
import Derived.Test.YthihmbicalacfaaMatD
import Derived.Laws.Shifts
namespace Go.Proofs.Ythihmbicalacfaa
open Go.RowKit Fix Mat

theorem applied_any (m : Mx) (x y : Int) (w : World) :
    Calls Try.prog 43 #[mxV m, ptV x y] w fun e w' => e = appEnd m x y ∧ Below w.heap.size w w' := by
  by_cases hm : okM m = true
  · by_cases h1 : (inRange x && inRange y && inRange (appA m x y)) = true
    · by_cases h2 : inRange (appB m x y) = true
      · exact applied_ok m x y _ _ w hm h1 h2 rfl rfl
      · exact applied_two m x y _ w hm h1 (Bool.eq_false_iff.2 h2) rfl
    · exact applied_one m x y w hm (Bool.eq_false_iff.2 h1)
  · exact applied_none m x y w hm

theorem two_frozen {w : World} {g : Nat} {t : TypeId} {v0 v1 : Value} (h : Blk w g t #[v0, v1]) : w.frozen? ⟨g, 0, none⟩ = false ∧ w.frozen? ⟨g, 1, none⟩ = false := ⟨h.frozen 0, h.frozen 1⟩
theorem below_two_sets {B g : Nat} {w w' : World} (h : Below B w w') (hg : B ≤ g) (u0 u1 : Value) : Below B w ((w'.setCell ⟨g, 0, none⟩ u0).setCell ⟨g, 1, none⟩ u1) :=
  (h.setCell (p := ⟨g, 0, none⟩) hg _).setCell (p := ⟨g, 1, none⟩) hg _

set_option maxRecDepth 100000 in
set_option maxHeartbeats 4000000 in
theorem apply_work (A B : Nat) (m : Mx) (x y : Int) (w : World) (hA : Blk w A 23 #[.int .i64 m.a, .int .i64 m.b, .int .i64 m.c, .int .i64 m.d, .int .i64 m.e, .int .i64 m.f]) (hB : Blk w B 25 #[.int .i64 x, .int .i64 y]) :
    Calls Try.prog 42 #[.pointer (some ⟨A, 0, none⟩), .pointer (some ⟨B, 0, none⟩)] w fun e w' => e = appEnd m x y ∧ Below w.heap.size w w' := by
  obtain ⟨N, hN⟩ : ∃ N, w.heap.size = N := ⟨_, rfl⟩
  obtain ⟨V, hV⟩ : ∃ V, w.alloc (.cells #[.int .i64 0, .int .i64 0] 25) = V := ⟨_, rfl⟩
  have hS : V.heap.size = N + 1 := by rw [← hV, World.size_alloc, hN]
  have HA1 := (show Blk V A 23 #[.int .i64 m.a, .int .i64 m.b, .int .i64 m.c, .int .i64 m.d, .int .i64 m.e, .int .i64 m.f] by rw [← hV]; exact hA.alloc _)
  have HB1 := (show Blk V B 25 #[.int .i64 x, .int .i64 y] by rw [← hV]; exact hB.alloc _)
  have HR1 := Lib.hid (show Blk V N 25 #[.int .i64 0, .int .i64 0] by rw [← hV, ← hN]; exact Blk.new w _ _)
  have HW1 := Lib.hid (show Below N w V by rw [← hV, ← hN]; exact (Below.refl _ w).alloc (Nat.le_refl _) _)
  have HS := Lib.hid hS
  obtain ⟨⟨a0, a1, a2, a3, a4, a5⟩, _⟩ := six_cells HA1
  obtain ⟨b0, b1⟩ := two_cells HB1
  rw [hN]
  go_enter Try.func42, Try.ntmps42
  go_upto_region 1 with fail
  clear hA hB hV hN hS HA1 HB1
  go_wp2_with fail
  refine (applied_any m x y V).mono ?_
  rintro e w2 ⟨rfl, hb⟩
  obtain ⟨c0, c1⟩ := two_cells (HR1.out.below hb HR1.out.lt)
  obtain ⟨f0, f1⟩ := two_frozen (HR1.out.below hb HR1.out.lt)
  have HW2 := Lib.hid (HW1.out.trans (hb.mono (by rw [HS.out]; omega)))
  clear hb a0 a1 a2 a3 a4 a5 b0 b1
  by_cases ho : appO m x y = true
  · have HE := Lib.hid (show appEnd m x y = .returned (ptV (appA m x y) (appB m x y)) by unfold appEnd; rw [if_pos ho])
    obtain ⟨u, hu⟩ : ∃ u, appA m x y = u := ⟨_, rfl⟩
    obtain ⟨v, hv⟩ : ∃ v, appB m x y = v := ⟨_, rfl⟩
    rw [hu, hv] at HE
    rw [HE.out]
    unfold ptV at HE
    unfold ptV
    clear ho hu hv
    go_wp2_with fail
    exact bodyPost_ret (v := .agg #[.int .i64 u, .int .i64 v]) (by simp [results, Try.results42, go_sem, c0, c1]) rfl ⟨HE.out.symm, below_two_sets HW2.out (Nat.le_refl _) _ _⟩
  · have HE := Lib.hid (show appEnd m x y = gUp 2 by unfold appEnd; rw [if_neg ho])
    rw [HE.out]
    clear ho
    exact ⟨rfl, HE.out.symm, HW2.out⟩

theorem enter_apply (caps : Array Value) (W : World) : (callFunc 42 caps).run Try.prog W = .ok (.enter 42 caps) W := by
  first | kernel_rfl | rfl
/-- What Apply answers: a point and an error. -/
def ptR (u v : Int) (e : Int) : Ending := .returned (.tuple #[ptV u v, .int .i64 e])
set_option maxRecDepth 100000 in
set_option maxHeartbeats 4000000 in
theorem apply_pt (m : Mx) (x y u v r : Int) (w : World) (hq : appP m x y = (u, v)) (hx : appX m x y = r) :
    Calls Try.prog 13 #[mxV m, ptV x y] w fun e w' => e = ptR u v r ∧ Below w.heap.size w w' := by
  unfold mxV ptR
  have hmf : ∀ (fn : Fn) (first cap : Array Value) (w : World), (Instr.makeFunc fn first cap).run Try.prog w = .ok (.func fn first cap) w := fun _ _ _ _ => rfl
  obtain ⟨N, hN⟩ : ∃ N, w.heap.size = N := ⟨_, rfl⟩
  obtain ⟨V, hV⟩ : ∃ V, ((w.alloc (.cells #[.int .i64 m.a, .int .i64 m.b, .int .i64 m.c, .int .i64 m.d, .int .i64 m.e, .int .i64 m.f] 23)).alloc (.cells #[.int .i64 x, .int .i64 y] 25)).alloc (.cells #[.int .i64 0, .int .i64 0] 25) = V := ⟨_, rfl⟩
  have hVs : V.heap.size = N + 3 := by rw [← hV]; simp [hN]
  have bA : Blk V N 23 #[.int .i64 m.a, .int .i64 m.b, .int .i64 m.c, .int .i64 m.d, .int .i64 m.e, .int .i64 m.f] := by
    rw [← hV, ← hN]
    exact ((Blk.new w _ _).alloc _).alloc _
  have bB : Blk V (N + 1) 25 #[.int .i64 x, .int .i64 y] := by
    rw [← hV]
    have := (Blk.new (w.alloc (.cells #[.int .i64 m.a, .int .i64 m.b, .int .i64 m.c, .int .i64 m.d, .int .i64 m.e, .int .i64 m.f] 23)) 25 #[.int .i64 x, .int .i64 y]).alloc (.cells #[.int .i64 0, .int .i64 0] 25)
    rw [World.size_alloc, hN] at this
    exact this
  have bR : Blk V (N + 2) 25 #[.int .i64 0, .int .i64 0] := by
    rw [← hV]
    have := Blk.new ((w.alloc (.cells #[.int .i64 m.a, .int .i64 m.b, .int .i64 m.c, .int .i64 m.d, .int .i64 m.e, .int .i64 m.f] 23)).alloc (.cells #[.int .i64 x, .int .i64 y] 25)) 25 #[.int .i64 0, .int .i64 0]
    rw [World.size_alloc, World.size_alloc, hN] at this
    exact this
  have HBV := Lib.hid (show Below N w V by rw [← hV, ← hN]; exact (((Below.refl _ w).alloc (Nat.le_refl _) _).alloc (by simp) _).alloc (by simp; omega) _)
  have HBR := Lib.hid bR
  have HVs := Lib.hid hVs
  have HCt : Hid (Calls Try.prog 41 #[.func (.func 42) #[] #[.pointer (some ⟨N, 0, none⟩), .pointer (some ⟨N + 1, 0, none⟩)]] V fun e w' => e = ptR u v r ∧ Below (N + 3) V w') := Lib.hid (by
    have hwk := apply_work N (N + 1) m x y ((V.alloc (.cells #[.int .i64 0, .int .i64 0] 25)).alloc (.cells #[.int .i64 0] 34)) ((bA.alloc _).alloc _) ((bB.alloc _).alloc _)
    have hus : ((V.alloc (.cells #[.int .i64 0, .int .i64 0] 25)).alloc (.cells #[.int .i64 0] 34)).heap.size = V.heap.size + 2 := by simp
    rw [hus] at hwk
    by_cases ho : appO m x y = true
    · have e0 : (appA m x y, appB m x y) = (u, v) := by rw [← hq]; unfold appP; rw [if_pos ho]
      injection e0 with e3 e4
      have e1 : appEnd m x y = .returned (ptV u v) := by unfold appEnd; rw [if_pos ho, e3, e4]
      have e2 : r = 0 := by rw [← hx]; unfold appX; rw [if_pos ho]
      rw [e1] at hwk
      refine (caughtP_ok 42 _ u v V (enter_apply _) hwk).mono ?_
      rintro e w' ⟨rfl, hb⟩
      rw [e2]
      exact ⟨rfl, by rw [← hVs]; exact hb⟩
    · have e1 : appEnd m x y = gUp 2 := by unfold appEnd; rw [if_neg ho]
      have e2 : r = 2 := by rw [← hx]; unfold appX; rw [if_neg ho]
      have e0 : ((0 : Int), (0 : Int)) = (u, v) := by rw [← hq]; unfold appP; rw [if_neg ho]
      injection e0 with e3 e4
      rw [e1] at hwk
      refine (caughtP_no 42 _ 2 V (enter_apply _) hwk).mono ?_
      rintro e w' ⟨rfl, hb⟩
      rw [e2, ← e3, ← e4]
      exact ⟨rfl, by rw [← hVs]; exact hb⟩)
  rw [hN]
  unfold ptR ptV at HCt
  unfold ptV
  clear bA bB bR hVs hq hx
  go_enter Try.func13, Try.ntmps13
  go_wp2_with fail
  refine HCt.out.mono ?_
  rintro e w' ⟨rfl, hb⟩
  obtain ⟨c0, c1⟩ := two_cells (HBR.out.below hb (by omega))
  obtain ⟨f0, f1⟩ := two_frozen (HBR.out.below hb (by omega))
  have HB := Lib.hid (HBV.out.trans (hb.mono (by omega)))
  clear hb hV hN
  go_wp2_with fail
  exact bodyPost_ret (v := .tuple #[.agg #[.int .i64 u, .int .i64 v], .int .i64 r]) (by simp [results, Try.results13, go_sem, c0, c1]) rfl ⟨rfl, below_two_sets HB.out (by omega) _ _⟩

theorem wrap_pow30 (k : Nat) : IntKind.i64.wrap ((2 : Int) ^ (30 - k)) = (2 : Int) ^ (30 - k) := by
  have hb : (2 : Nat) ^ (30 - k) ≤ 2 ^ 30 := Nat.pow_le_pow_right (by decide) (by omega)
  have hc : ((2 : Int) ^ (30 - k)) = ((2 ^ (30 - k) : Nat) : Int) := by norm_cast
  generalize (2 : Nat) ^ (30 - k) = m at hb hc
  rw [hc]
  exact IntWalk.i64_in _ (by omega)
theorem pow_half30 (k : Nat) (h : k < 31) : (2 : Int) ^ (31 - k) = 2 * (2 : Int) ^ (30 - k) := by
  rw [show 31 - k = (30 - k) + 1 by omega, Int.pow_succ, Int.mul_comm]
theorem pow_pos30 (k : Nat) : 0 < (2 : Int) ^ (30 - k) := Int.pow_pos (by decide)

set_option maxHeartbeats 1600000 in
theorem root31_any (n s : Int) (w : World) (hn : 0 ≤ n) (hn2 : n ≤ 2305843009213693952) (s0 : 0 ≤ s) (s1 : s * s ≤ n) (s2 : n < (s + 1) * (s + 1)) :
    Calls Try.prog 44 #[.int .i64 n] w fun e w' => e = .returned (.int .i64 s) ∧ w = w' := by
  have S := Lib.hid (And.intro s0 (And.intro s1 s2))
  clear s0 s1 s2
  have HN := Lib.hid hn2
  go_enter Try.func44, Try.ntmps44
  go_wp2
  go_loopw [3, 6] (fun v i wr => ∃ (k : Nat) (r : Int), k ≤ 31 ∧ v = .int .i64 r ∧ i = .int .i64 k ∧ 0 ≤ r ∧ Hid (r + (2 : Int) ^ (31 - k) ≤ 2147483648 ∧ r * r ≤ n ∧ n < (r + (2 : Int) ^ (31 - k)) * (r + (2 : Int) ^ (31 - k))) ∧ wr = w) (fun _ i _ => 31 - (intOf i).toNat)
  case atStart => exact ⟨0, 0, by omega, rfl, rfl, by omega, Lib.hid ⟨by decide, by omega, by have := HN.out; simp; omega⟩, rfl⟩
  case round =>
    obtain ⟨k, r, hk, rfl, rfl, hr, hinv, rfl⟩ := hrel
    by_cases hlt : k < 31
    · have hw00 := wrap_pow30 k
      obtain ⟨i1, i2, i3⟩ := hinv.out
      have hp := pow_half30 k hlt
      have hpos := pow_pos30 k
      have hk1 : 31 - (k + 1) = 30 - k := by omega
      rw [hp] at i1 i3
      generalize hB : (2 : Int) ^ (30 - k) = B at hp hpos i1 i3
      have hw0 : IntKind.i64.wrap ((2 : Int) ^ (30 - k)) = B := hw00.trans hB
      clear hw00
      have hb1 : (r + B) * (r + B) ≤ 2147483648 * 2147483648 := Int.mul_le_mul (by omega) (by omega) (by omega) (by omega)
      have hb0 : 0 ≤ (r + B) * (r + B) := Int.mul_nonneg (by omega) (by omega)
      have hw1 : IntKind.i64.wrap (r + B) = r + B := IntWalk.i64_in _ (by omega)
      have hw2 : IntKind.i64.wrap ((r + B) * (r + B)) = (r + B) * (r + B) := IntWalk.i64_in _ (by omega)
      have hstep := root_step n r B hr hpos i2 i3
      have HS := Lib.hid (And.intro hstep (And.intro i1 (And.intro hpos (And.intro hB hk1))))
      clear hstep i1 i2 i3 hb0 hb1 hp hpos hinv hB hk1
      by_cases hle : (r + B) * (r + B) ≤ n
      · go_wp2
        go_roundw
        case rel =>
          obtain ⟨g1, g2, g3, g4, g5⟩ := HS.out
          rw [if_pos hle] at g1
          exact ⟨k + 1, r + B, by omega, rfl, by go_num, by omega, Lib.hid ⟨by rw [g5, g4]; omega, g1.1, by rw [g5, g4]; exact g1.2⟩, trivial⟩
        case measure => simp [intOf]; omega
      · go_wp2
        go_roundw
        case rel =>
          obtain ⟨g1, g2, g3, g4, g5⟩ := HS.out
          rw [if_neg hle] at g1
          exact ⟨k + 1, r, by omega, rfl, by go_num, by omega, Lib.hid ⟨by rw [g5, g4]; omega, g1.1, by rw [g5, g4]; exact g1.2⟩, trivial⟩
        case measure => simp [intOf]; omega
    · obtain rfl : k = 31 := by omega
      obtain ⟨i1, i2, i3⟩ := hinv.out
      obtain ⟨s0, s1, s2⟩ := S.out
      obtain rfl : r = s := root_unique n r s hr s0 i2 i3 s1 s2
      clear i1 i2 i3 s0 s1 s2 hinv
      go_wp2
      go_ret
      exact ⟨rfl, rfl⟩

/-- The same matrix, with no move. -/
def flatM (m : Mx) : Mx := ⟨m.a, m.b, m.c, m.d, 0, 0⟩
/-- n is the root of s, rounded down. -/
def IsRoot (s n : Int) : Prop := 0 ≤ n ∧ n * n ≤ s ∧ s < (n + 1) * (n + 1)
theorem sq_bound {u : Int} (h : inRange u = true) : 0 ≤ u * u ∧ u * u ≤ 1152921504606846976 := by
  have h2 := inRange_yes h
  have h3 : u * u = (u.natAbs : Int) * (u.natAbs : Int) := Int.natAbs_mul_self.symm.trans (by simp)
  have h4 : (u.natAbs : Int) ≤ 1073741824 := by omega
  have h5 : (u.natAbs : Int) * (u.natAbs : Int) ≤ 1073741824 * 1073741824 := Int.mul_le_mul h4 h4 (by omega) (by omega)
  have h6 : 0 ≤ (u.natAbs : Int) * (u.natAbs : Int) := Int.mul_nonneg (by omega) (by omega)
  omega
theorem app_in {m : Mx} {x y : Int} (h : appO m x y = true) : inRange (appA m x y) = true ∧ inRange (appB m x y) = true := by
  unfold appO at h
  simp only [Bool.and_eq_true] at h
  exact ⟨h.2.1.2, h.2.2⟩

/-- What Length answers. -/
def LenIs (m : Mx) (x y n e : Int) : Prop :=
  (appO (flatM m) x y = true ∧ ∃ r, IsRoot (appA (flatM m) x y * appA (flatM m) x y + appB (flatM m) x y * appB (flatM m) x y) r ∧ ((r ≤ 1073741824 ∧ n = r ∧ e = 0) ∨ (1073741824 < r ∧ n = 0 ∧ e = 2))) ∨ (appO (flatM m) x y = false ∧ n = 0 ∧ e = 2)
theorem root_is (s : Int) (h : 0 ≤ s) : ∃ r, IsRoot s r := ⟨rootS s, rootS_spec s h⟩
theorem LenIs_ex (m : Mx) (x y : Int) : ∃ n e, LenIs m x y n e := by
  by_cases h : appO (flatM m) x y = true
  · obtain ⟨h1, h2⟩ := app_in h
    obtain ⟨r, hr⟩ := root_is (appA (flatM m) x y * appA (flatM m) x y + appB (flatM m) x y * appB (flatM m) x y) (by have := sq_bound h1; have := sq_bound h2; omega)
    by_cases hle : r ≤ 1073741824
    · exact ⟨r, 0, .inl ⟨h, r, hr, .inl ⟨hle, rfl, rfl⟩⟩⟩
    · exact ⟨0, 2, .inl ⟨h, r, hr, .inr ⟨by omega, rfl, rfl⟩⟩⟩
  · exact ⟨0, 2, .inr ⟨Bool.eq_false_iff.2 h, rfl, rfl⟩⟩

set_option maxRecDepth 100000 in
set_option maxHeartbeats 4000000 in
theorem length_any (m : Mx) (x y n r : Int) (w : World) (h : LenIs m x y n r) :
    Calls Try.prog 15 #[mxV m, ptV x y] w fun e w' => e = .returned (.tuple #[.int .i64 n, .int .i64 r]) ∧ Below w.heap.size w w' := by
  obtain ⟨N, hN⟩ : ∃ N, w.heap.size = N := ⟨_, rfl⟩
  obtain ⟨B, hB⟩ : ∃ B, N + 1 = B := ⟨_, rfl⟩
  obtain ⟨V, hV⟩ : ∃ V, (w.alloc (.cells #[.int .i64 m.a, .int .i64 m.b, .int .i64 m.c, .int .i64 m.d, .int .i64 m.e, .int .i64 m.f] 23)).alloc (.cells #[.int .i64 x, .int .i64 y] 25) = V := ⟨_, rfl⟩
  have hVs : V.heap.size = B + 1 := by rw [← hV]; simp [hN]; omega
  have bA : Blk V N 23 #[.int .i64 m.a, .int .i64 m.b, .int .i64 m.c, .int .i64 m.d, .int .i64 m.e, .int .i64 m.f] := by
    rw [← hV, ← hN]
    exact (Blk.new w _ _).alloc _
  have bB : Blk V B 25 #[.int .i64 x, .int .i64 y] := by
    rw [← hV]
    have := Blk.new (w.alloc (.cells #[.int .i64 m.a, .int .i64 m.b, .int .i64 m.c, .int .i64 m.d, .int .i64 m.e, .int .i64 m.f] 23)) 25 #[.int .i64 x, .int .i64 y]
    rw [World.size_alloc, hN, hB] at this
    exact this
  have hBV : Below N w V := by
    rw [← hV, ← hN]
    exact ((Below.refl _ w).alloc (Nat.le_refl _) _).alloc (by simp) _
  have HVs := Lib.hid hVs
  have HBV := Lib.hid hBV
  have HNB := Lib.hid (show N ≠ B ∧ N ≤ B ∧ N < B + 1 by omega)
  have HA := Lib.hid bA
  have HP := Lib.hid bB
  have HH := Lib.hid h
  rw [hN]
  unfold mxV ptV
  go_enter Try.func15, Try.ntmps15
  go_upto_region 1 with fail
  clear bA bB hBV hVs hV hN h hB
  obtain ⟨⟨a0, a1, a2, a3, a4, a5⟩, ⟨f0, f1, f2, f3, f4, f5⟩⟩ := six_cells HA.out
  go_upto_region 2 with fail
  obtain ⟨U, hU⟩ : ∃ U, (V.setCell ⟨N, 4, none⟩ (.int .i64 0)).setCell ⟨N, 5, none⟩ (.int .i64 0) = U := ⟨_, rfl⟩
  have hUs : U.heap.size = B + 1 := by rw [← hU]; simp [HVs.out]
  have HAU := Lib.hid (show Blk U N 23 #[.int .i64 m.a, .int .i64 m.b, .int .i64 m.c, .int .i64 m.d, .int .i64 0, .int .i64 0] by rw [← hU]; exact (HA.out.set_ 4 _).set_ 5 _)
  have HPU := Lib.hid (show Blk U B 25 #[.int .i64 x, .int .i64 y] by rw [← hU]; exact (HP.out.far (p := ⟨N, 4, none⟩) (fun e => HNB.out.1 e.symm) _).far (p := ⟨N, 5, none⟩) (fun e => HNB.out.1 e.symm) _)
  have HBU := Lib.hid (show Below N w U by rw [← hU]; exact (HBV.out.setCell (p := ⟨N, 4, none⟩) (Nat.le_refl _) _).setCell (p := ⟨N, 5, none⟩) (Nat.le_refl _) _)
  have HUs := Lib.hid hUs
  rw [hU]
  clear a0 a1 a2 a3 a4 a5 f0 f1 f2 f3 f4 f5 hU hUs HA HP HBV HVs
  obtain ⟨⟨a0, a1, a2, a3, a4, a5⟩, _⟩ := six_cells HAU.out
  obtain ⟨b0, b1⟩ := two_cells HPU.out
  obtain ⟨u, v, huv⟩ : ∃ u v, appP (flatM m) x y = (u, v) := ⟨_, _, rfl⟩
  obtain ⟨q, hq⟩ : ∃ q, appX (flatM m) x y = q := ⟨_, rfl⟩
  have HAp := Lib.hid (apply_pt (flatM m) x y u v q U huv hq)
  have HU2 := Lib.hid huv
  have HQ := Lib.hid hq
  unfold ptR ptV at HAp
  clear huv hq
  go_wp2_with fail
  refine HAp.out.mono ?_
  rintro e W ⟨rfl, hb⟩
  have HBW := Lib.hid (HBU.out.trans (hb.mono (by rw [HUs.out]; exact Nat.le_of_lt HNB.out.2.2)))
  have HWN := Lib.hid (show N ≤ W.heap.size by have := hb.size; rw [HUs.out] at this; have := HNB.out; omega)
  clear hb a0 a1 a2 a3 a4 a5 b0 b1
  rcases HH.out with ⟨ho, s, hs, hcase⟩ | ⟨ho, rfl, rfl⟩
  · obtain rfl : q = 0 := by rw [← HQ.out]; unfold appX; rw [if_pos ho]
    have e0 : (appA (flatM m) x y, appB (flatM m) x y) = (u, v) := by rw [← HU2.out]; unfold appP; rw [if_pos ho]
    injection e0 with e3 e4
    rw [e3, e4] at hs
    obtain ⟨i1, i2⟩ := app_in ho
    rw [e3] at i1
    rw [e4] at i2
    have k1 := sq_bound i1
    have k2 := sq_bound i2
    have hw1 : IntKind.i64.wrap (u * u) = u * u := IntWalk.i64_in _ (by omega)
    have hw2 : IntKind.i64.wrap (v * v) = v * v := IntWalk.i64_in _ (by omega)
    have hw3 : IntKind.i64.wrap (u * u + v * v) = u * u + v * v := IntWalk.i64_in _ (by omega)
    have HRt := Lib.hid (fun W : World => root31_any (u * u + v * v) s W (by omega) (by omega) hs.1 hs.2.1 hs.2.2)
    clear hs e3 e4 i1 i2 k1 k2 ho
    rcases hcase with ⟨hle, rfl, rfl⟩ | ⟨hgt, rfl, rfl⟩
    · have hn2 : ¬ 1073741824 < n := by omega
      go_wp2_with fail
      refine (HRt.out _).mono ?_
      rintro e w' ⟨rfl, rfl⟩
      clear hw1 hw2 hw3
      go_wp2_with fail
      go_ret2
      exact ⟨rfl, HBW.out.alloc HWN.out _⟩
    · go_wp2_with fail
      refine (HRt.out _).mono ?_
      rintro e w' ⟨rfl, rfl⟩
      clear hw1 hw2 hw3
      go_wp2_with fail
      go_ret2
      exact ⟨rfl, HBW.out.alloc HWN.out _⟩
  · obtain rfl : q = 2 := by rw [← HQ.out]; unfold appX; rw [ho]; rfl
    clear ho
    go_wp2_with fail
    go_ret2
    exact ⟨rfl, HBW.out.alloc HWN.out _⟩
end Go.Proofs.Ythihmbicalacfaa
