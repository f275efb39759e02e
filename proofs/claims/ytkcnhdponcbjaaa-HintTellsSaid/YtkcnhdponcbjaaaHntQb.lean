/-
  The document's bounds of a column.
-/
import Derived.Test.YtkcnhdponcbjaaaHntQa
import Derived.Deep.RegionHeld3
namespace Go.Proofs.Ytkcnhdponcbjaaa
open Go.RowKit Bt Hnt

theorem least_take (c : Nat) (x : Int) {l : List H3} {k : Nat} (h : k < l.length) : leastC c (l.take (k + 1)) x = min (leastC c (l.take k) x) (clm c l[k]) := by
  unfold leastC
  rw [List.take_succ_eq_append_getElem h, List.foldl_append]
  rfl
theorem most_take (c : Nat) (x : Int) {l : List H3} {k : Nat} (h : k < l.length) : mostCs c (l.take (k + 1)) x = max (mostCs c (l.take k) x) (clm c l[k]) := by
  unfold mostCs
  rw [List.take_succ_eq_append_getElem h, List.foldl_append]
  rfl
theorem lst_at (c : Nat) {l : List H3} (h : 0 < l.length) : lst c l = leastC c l (clm c l[0]) := by
  match l, h with
  | a :: l, _ => rfl
theorem mst_at (c : Nat) {l : List H3} (h : 0 < l.length) : mst c l = mostCs c l (clm c l[0]) := by
  match l, h with
  | a :: l, _ => rfl

theorem hstep {N : Nat} {w w1 w2 : World} (h : Below N w w1 ∧ N ≤ w1.heap.size) (hb : Below w1.heap.size w1 w2) : Below N w w2 ∧ N ≤ w2.heap.size :=
  ⟨h.1.trans (hb.mono h.2), Nat.le_trans h.2 hb.size⟩

theorem hfar {N g : Nat} {w w1 w2 : World} (h : Below N w w1 ∧ N ≤ w1.heap.size) (hg : N ≤ g) (hb : Below g w1 w2 ∧ g ≤ w2.heap.size) : Below N w w2 ∧ N ≤ w2.heap.size :=
  ⟨h.1.trans (hb.1.mono hg), Nat.le_trans hg hb.2⟩

set_option maxRecDepth 100000 in
set_option maxHeartbeats 4000000 in
theorem bounds_any (A : Option Addr) (cap : Nat) (l : List H3) (c : Nat) (w : World) (h : HAt w A l) (hne : 0 < l.length) (hc : c < 3) (hl : l.length ≤ 1000000000) :
    Calls Try.prog 25 #[.slice A l.length cap, .int .i64 (c : Int)] w fun e w' => e = .returned (.tuple #[.int .i64 (lst c l), .int .i64 (mst c l)]) ∧ Below w.heap.size w w' := by
  rw [lst_at c hne, mst_at c hne]
  obtain ⟨N, hN⟩ : ∃ N, w.heap.size = N := ⟨_, rfl⟩
  obtain ⟨n, hn⟩ : ∃ n, l.length = n := ⟨_, rfl⟩
  have HN := Lib.hid hn
  have HS := Lib.hid hN
  have H0 := Lib.hid (fun (W : World) (hb : Below N w W) => h.below (hN ▸ hb))
  have HP := Lib.hid (fun (x y z : Int) (W : World) => part_any x y z c hc W)
  obtain ⟨x0, hx0⟩ : ∃ x, clm c l[0] = x := ⟨_, rfl⟩
  have HX := Lib.hid (show clm c (l[0].1, l[0].2.1, l[0].2.2) = x0 from hx0)
  obtain ⟨b, off, hA, hbN, a0, a1, a2⟩ := h 0 hne
  rw [hN] at hbN
  subst hA
  have n1 : (0 : Int) < (n : Int) := by omega
  have n2 : 0 < n := by omega
  have n3 : ¬ n = 0 := by omega
  have hnb : (n : Int) ≤ 1000000000 := by omega
  rw [hN, hn, hx0]
  rw [Nat.zero_mul, Nat.add_zero] at a0 a1 a2
  obtain ⟨u0, hu0⟩ : ∃ u, l[0].1 = u := ⟨_, rfl⟩
  obtain ⟨u1, hu1⟩ : ∃ u, l[0].2.1 = u := ⟨_, rfl⟩
  obtain ⟨u2, hu2⟩ : ∃ u, l[0].2.2 = u := ⟨_, rfl⟩
  rw [hu0, hu1, hu2] at HX
  rw [hu0] at a0
  rw [hu1] at a1
  rw [hu2] at a2
  clear hu0 hu1 hu2 hx0 h hl hn hN
  go_enter Try.func25, Try.ntmps25
  have HK := Lib.hid (fun (W : World) (hb : Below N w W) => (show W.cell? ⟨b, off, none⟩ = some (.int .i64 u0) ∧ W.cell? ⟨b, off + 1, none⟩ = some (.int .i64 u1) ∧ W.cell? ⟨b, off + 2, none⟩ = some (.int .i64 u2) from
    ⟨(hb.cell (p := ⟨b, _, none⟩) hbN).trans a0, (hb.cell (p := ⟨b, _, none⟩) hbN).trans a1, (hb.cell (p := ⟨b, _, none⟩) hbN).trans a2⟩))
  have HPX := Lib.hid (fun W : World => part_any u0 u1 u2 c hc W)
  rw [HX.out] at HPX
  go_wp2_with fail
  go_region_held3 (fun W => W.cell? ⟨b, off, none⟩ = some (.int .i64 u0) ∧ W.cell? ⟨b, off + 1, none⟩ = some (.int .i64 u1) ∧ W.cell? ⟨b, off + 2, none⟩ = some (.int .i64 u2)) (first | exact ⟨a0, a1, a2⟩ | exact HK.out _ HB2.out.1 | exact HK.out _ HB1.out.1) (first | (go_at_call 27; refine (HPX.out w1).mono ?_; rintro e w2 ⟨rfl, hb2⟩; have HB2 := Lib.hid (hstep HB1.out hb2)) | (go_at_call 27; refine (HPX.out _).mono ?_; rintro e w1 ⟨rfl, hb1⟩; have HB1 := Lib.hid (hstep (show Below N w w.drew ∧ N ≤ w.drew.heap.size from ⟨(Below.refl _ _).drew, by rw [← HS.out]; exact Nat.le_refl _⟩) hb1)))
  all_goals
    have HB3 := Lib.hid (show Below N w w2 ∧ N ≤ w2.heap.size from HB2.out)
    clear HB1 HB2 HPX a0 a1 a2 HK
    go_wp2_with fail
    go_loopw [6, 7, 22] (fun lv mv iv wr => ∃ k : Nat, k ≤ n ∧ iv = .int .i64 (k : Int) ∧ lv = .int .i64 (leastC c (l.take k) x0) ∧ mv = .int .i64 (mostCs c (l.take k) x0) ∧ Hid (Below N w wr ∧ N ≤ wr.heap.size)) (fun _ _ iv _ => n - (intOf iv).toNat)
    case atStart => exact ⟨0, by omega, rfl, rfl, rfl, HB3⟩
    case round =>
      obtain ⟨k, hk, rfl, rfl, rfl, HB⟩ := hrel
      by_cases hlt : k < n
      · have hkl : k < l.length := by rw [HN.out]; exact hlt
        have hik : (k : Int) < (n : Int) := by omega
        have hik0 : (0 : Int) ≤ (k : Int) := by omega
        obtain ⟨b2, off2, hA2, _, c0, c1, c2⟩ := H0.out wr HB.out.1 k hkl
        injection hA2 with hA2
        injection hA2 with e1 e2
        subst e1 e2
        have HL1 := Lib.hid (least_take c x0 hkl)
        have HM1 := Lib.hid (most_take c x0 hkl)
        obtain ⟨v, hv⟩ : ∃ x, clm c l[k] = x := ⟨_, rfl⟩
        rw [hv] at HL1 HM1
        have HV := Lib.hid (show clm c (l[k].1, l[k].2.1, l[k].2.2) = v from hv)
        obtain ⟨x, hx⟩ : ∃ x, l[k].1 = x := ⟨_, rfl⟩
        obtain ⟨y, hy⟩ : ∃ x, l[k].2.1 = x := ⟨_, rfl⟩
        obtain ⟨z, hz⟩ : ∃ x, l[k].2.2 = x := ⟨_, rfl⟩
        rw [hx, hy, hz] at HV
        rw [hx] at c0
        rw [hy] at c1
        rw [hz] at c2
        have HPv := Lib.hid (fun W : World => part_any x y z c hc W)
        rw [HV.out] at HPv
        obtain ⟨m1, hm1⟩ : ∃ m, leastC c (l.take k) x0 = m := ⟨_, rfl⟩
        obtain ⟨m2, hm2⟩ : ∃ m, mostCs c (l.take k) x0 = m := ⟨_, rfl⟩
        rw [hm1] at HL1 ⊢
        rw [hm2] at HM1 ⊢
        clear hx hy hz hv hm1 hm2
        obtain ⟨g, hg⟩ : ∃ g, wr.heap.size = g := ⟨_, rfl⟩
        obtain ⟨W4, hW4⟩ : ∃ W4, wr.alloc (.cells #[.int .i64 x, .int .i64 y, .int .i64 z] 35) = W4 := ⟨_, rfl⟩
        have hS4 : W4.heap.size = g + 1 := by rw [← hW4, World.size_alloc, hg]
        have HB4 := Lib.hid (show Below N w W4 ∧ N ≤ W4.heap.size from ⟨by rw [← hW4]; exact HB.out.1.alloc HB.out.2 _, by have := HB.out.2; omega⟩)
        have HG4 := Lib.hid (show Blk W4 g 35 #[.int .i64 x, .int .i64 y, .int .i64 z] by rw [← hW4, ← hg]; exact Blk.new _ _ _)
        have HKg := Lib.hid (fun (W : World) (hb : Below (g + 1) W4 W) => (show W.cell? ⟨g, 0, none⟩ = some (.int .i64 x) ∧ W.cell? ⟨g, 1, none⟩ = some (.int .i64 y) ∧ W.cell? ⟨g, 2, none⟩ = some (.int .i64 z) from
          ⟨((HG4.out.below hb (by omega)).cell 0).trans rfl, ((HG4.out.below hb (by omega)).cell 1).trans rfl, ((HG4.out.below hb (by omega)).cell 2).trans rfl⟩))
        have HS4 := Lib.hid (show Below (g + 1) W4 W4.drew ∧ g + 1 ≤ W4.drew.heap.size from ⟨(Below.refl _ _).drew, by show g + 1 ≤ W4.heap.size; rw [hS4]; exact Nat.le_refl _⟩)
        have HNg := Lib.hid (show N ≤ g + 1 by rw [← hS4]; exact HB4.out.2)
        clear hS4
        go_upto_region 5 with fail
        try rw [hW4]
        try rw [hg]
        clear hW4 hg c0 c1 c2
        obtain ⟨d0, d1, d2⟩ := HKg.out W4 (Below.refl _ _)
        have hfin : leastC c (l.take (k + 1)) x0 = min m1 v ∧ mostCs c (l.take (k + 1)) x0 = max m2 v := ⟨HL1.out, HM1.out⟩
        have HF := Lib.hid hfin
        clear hfin
        rcases (show (v < m1 ∧ ¬ m1 < v) ∨ (¬ v < m1 ∧ ¬ m1 < v ∧ v = m1) ∨ (¬ v < m1 ∧ m1 < v) by omega) with ⟨i1, i2⟩ | ⟨i1, i2, i3⟩ | ⟨i1, i2⟩
        · rcases (show (m2 < v ∧ ¬ v < m2) ∨ (¬ m2 < v ∧ ¬ v < m2 ∧ m2 = v) ∨ (¬ m2 < v ∧ v < m2) by omega) with ⟨j1, j2⟩ | ⟨j1, j2, j3⟩ | ⟨j1, j2⟩
          · go_region_held3 (fun W => W.cell? ⟨g, 0, none⟩ = some (.int .i64 x) ∧ W.cell? ⟨g, 1, none⟩ = some (.int .i64 y) ∧ W.cell? ⟨g, 2, none⟩ = some (.int .i64 z)) (first | exact ⟨d0, d1, d2⟩ | exact HKg.out _ HC2.out.1 | exact HKg.out _ HC1.out.1) (first | (go_at_call 27; refine (HPv.out w5).mono ?_; rintro e w6 ⟨rfl, hb6⟩; have HC2 := Lib.hid (hstep HC1.out hb6)) | (go_at_call 27; refine (HPv.out _).mono ?_; rintro e w5 ⟨rfl, hb5⟩; have HC1 := Lib.hid (hstep HS4.out hb5)))
            all_goals
              go_wp2_with fail
              go_roundw
              case rel => exact ⟨k + 1, by omega, by go_num, by rw [HF.out.1]; congr 1; omega, by rw [HF.out.2]; congr 1; omega, Lib.hid (hfar HB4.out HNg.out HC2.out)⟩
              case measure => simp [intOf]; omega
          · go_region_held3 (fun W => W.cell? ⟨g, 0, none⟩ = some (.int .i64 x) ∧ W.cell? ⟨g, 1, none⟩ = some (.int .i64 y) ∧ W.cell? ⟨g, 2, none⟩ = some (.int .i64 z)) (first | exact ⟨d0, d1, d2⟩ | exact HKg.out _ HC2.out.1 | exact HKg.out _ HC1.out.1) (first | (go_at_call 27; refine (HPv.out w5).mono ?_; rintro e w6 ⟨rfl, hb6⟩; have HC2 := Lib.hid (hstep HC1.out hb6)) | (go_at_call 27; refine (HPv.out _).mono ?_; rintro e w5 ⟨rfl, hb5⟩; have HC1 := Lib.hid (hstep HS4.out hb5)))
            all_goals
              go_wp2_with fail
              go_roundw
              case rel => exact ⟨k + 1, by omega, by go_num, by rw [HF.out.1]; congr 1; omega, by rw [HF.out.2]; congr 1; omega, Lib.hid (hfar HB4.out HNg.out HC2.out)⟩
              case measure => simp [intOf]; omega
          · go_region_held3 (fun W => W.cell? ⟨g, 0, none⟩ = some (.int .i64 x) ∧ W.cell? ⟨g, 1, none⟩ = some (.int .i64 y) ∧ W.cell? ⟨g, 2, none⟩ = some (.int .i64 z)) (first | exact ⟨d0, d1, d2⟩ | exact HKg.out _ HC2.out.1 | exact HKg.out _ HC1.out.1) (first | (go_at_call 27; refine (HPv.out w5).mono ?_; rintro e w6 ⟨rfl, hb6⟩; have HC2 := Lib.hid (hstep HC1.out hb6)) | (go_at_call 27; refine (HPv.out _).mono ?_; rintro e w5 ⟨rfl, hb5⟩; have HC1 := Lib.hid (hstep HS4.out hb5)))
            all_goals
              go_wp2_with fail
              go_roundw
              case rel => exact ⟨k + 1, by omega, by go_num, by rw [HF.out.1]; congr 1; omega, by rw [HF.out.2]; congr 1; omega, Lib.hid (hfar HB4.out HNg.out HC2.out)⟩
              case measure => simp [intOf]; omega
        · rcases (show (m2 < v ∧ ¬ v < m2) ∨ (¬ m2 < v ∧ ¬ v < m2 ∧ m2 = v) ∨ (¬ m2 < v ∧ v < m2) by omega) with ⟨j1, j2⟩ | ⟨j1, j2, j3⟩ | ⟨j1, j2⟩
          · go_region_held3 (fun W => W.cell? ⟨g, 0, none⟩ = some (.int .i64 x) ∧ W.cell? ⟨g, 1, none⟩ = some (.int .i64 y) ∧ W.cell? ⟨g, 2, none⟩ = some (.int .i64 z)) (first | exact ⟨d0, d1, d2⟩ | exact HKg.out _ HC2.out.1 | exact HKg.out _ HC1.out.1) (first | (go_at_call 27; refine (HPv.out w5).mono ?_; rintro e w6 ⟨rfl, hb6⟩; have HC2 := Lib.hid (hstep HC1.out hb6)) | (go_at_call 27; refine (HPv.out _).mono ?_; rintro e w5 ⟨rfl, hb5⟩; have HC1 := Lib.hid (hstep HS4.out hb5)))
            all_goals
              go_wp2_with fail
              go_roundw
              case rel => exact ⟨k + 1, by omega, by go_num, by rw [HF.out.1]; congr 1; omega, by rw [HF.out.2]; congr 1; omega, Lib.hid (hfar HB4.out HNg.out HC2.out)⟩
              case measure => simp [intOf]; omega
          · go_region_held3 (fun W => W.cell? ⟨g, 0, none⟩ = some (.int .i64 x) ∧ W.cell? ⟨g, 1, none⟩ = some (.int .i64 y) ∧ W.cell? ⟨g, 2, none⟩ = some (.int .i64 z)) (first | exact ⟨d0, d1, d2⟩ | exact HKg.out _ HC2.out.1 | exact HKg.out _ HC1.out.1) (first | (go_at_call 27; refine (HPv.out w5).mono ?_; rintro e w6 ⟨rfl, hb6⟩; have HC2 := Lib.hid (hstep HC1.out hb6)) | (go_at_call 27; refine (HPv.out _).mono ?_; rintro e w5 ⟨rfl, hb5⟩; have HC1 := Lib.hid (hstep HS4.out hb5)))
            all_goals
              go_wp2_with fail
              go_roundw
              case rel => exact ⟨k + 1, by omega, by go_num, by rw [HF.out.1]; congr 1; omega, by rw [HF.out.2]; congr 1; omega, Lib.hid (hfar HB4.out HNg.out HC2.out)⟩
              case measure => simp [intOf]; omega
          · go_region_held3 (fun W => W.cell? ⟨g, 0, none⟩ = some (.int .i64 x) ∧ W.cell? ⟨g, 1, none⟩ = some (.int .i64 y) ∧ W.cell? ⟨g, 2, none⟩ = some (.int .i64 z)) (first | exact ⟨d0, d1, d2⟩ | exact HKg.out _ HC2.out.1 | exact HKg.out _ HC1.out.1) (first | (go_at_call 27; refine (HPv.out w5).mono ?_; rintro e w6 ⟨rfl, hb6⟩; have HC2 := Lib.hid (hstep HC1.out hb6)) | (go_at_call 27; refine (HPv.out _).mono ?_; rintro e w5 ⟨rfl, hb5⟩; have HC1 := Lib.hid (hstep HS4.out hb5)))
            all_goals
              go_wp2_with fail
              go_roundw
              case rel => exact ⟨k + 1, by omega, by go_num, by rw [HF.out.1]; congr 1; omega, by rw [HF.out.2]; congr 1; omega, Lib.hid (hfar HB4.out HNg.out HC2.out)⟩
              case measure => simp [intOf]; omega
        · rcases (show (m2 < v ∧ ¬ v < m2) ∨ (¬ m2 < v ∧ ¬ v < m2 ∧ m2 = v) ∨ (¬ m2 < v ∧ v < m2) by omega) with ⟨j1, j2⟩ | ⟨j1, j2, j3⟩ | ⟨j1, j2⟩
          · go_region_held3 (fun W => W.cell? ⟨g, 0, none⟩ = some (.int .i64 x) ∧ W.cell? ⟨g, 1, none⟩ = some (.int .i64 y) ∧ W.cell? ⟨g, 2, none⟩ = some (.int .i64 z)) (first | exact ⟨d0, d1, d2⟩ | exact HKg.out _ HC2.out.1 | exact HKg.out _ HC1.out.1) (first | (go_at_call 27; refine (HPv.out w5).mono ?_; rintro e w6 ⟨rfl, hb6⟩; have HC2 := Lib.hid (hstep HC1.out hb6)) | (go_at_call 27; refine (HPv.out _).mono ?_; rintro e w5 ⟨rfl, hb5⟩; have HC1 := Lib.hid (hstep HS4.out hb5)))
            all_goals
              go_wp2_with fail
              go_roundw
              case rel => exact ⟨k + 1, by omega, by go_num, by rw [HF.out.1]; congr 1; omega, by rw [HF.out.2]; congr 1; omega, Lib.hid (hfar HB4.out HNg.out HC2.out)⟩
              case measure => simp [intOf]; omega
          · go_region_held3 (fun W => W.cell? ⟨g, 0, none⟩ = some (.int .i64 x) ∧ W.cell? ⟨g, 1, none⟩ = some (.int .i64 y) ∧ W.cell? ⟨g, 2, none⟩ = some (.int .i64 z)) (first | exact ⟨d0, d1, d2⟩ | exact HKg.out _ HC2.out.1 | exact HKg.out _ HC1.out.1) (first | (go_at_call 27; refine (HPv.out w5).mono ?_; rintro e w6 ⟨rfl, hb6⟩; have HC2 := Lib.hid (hstep HC1.out hb6)) | (go_at_call 27; refine (HPv.out _).mono ?_; rintro e w5 ⟨rfl, hb5⟩; have HC1 := Lib.hid (hstep HS4.out hb5)))
            all_goals
              go_wp2_with fail
              go_roundw
              case rel => exact ⟨k + 1, by omega, by go_num, by rw [HF.out.1]; congr 1; omega, by rw [HF.out.2]; congr 1; omega, Lib.hid (hfar HB4.out HNg.out HC2.out)⟩
              case measure => simp [intOf]; omega
          · go_region_held3 (fun W => W.cell? ⟨g, 0, none⟩ = some (.int .i64 x) ∧ W.cell? ⟨g, 1, none⟩ = some (.int .i64 y) ∧ W.cell? ⟨g, 2, none⟩ = some (.int .i64 z)) (first | exact ⟨d0, d1, d2⟩ | exact HKg.out _ HC2.out.1 | exact HKg.out _ HC1.out.1) (first | (go_at_call 27; refine (HPv.out w5).mono ?_; rintro e w6 ⟨rfl, hb6⟩; have HC2 := Lib.hid (hstep HC1.out hb6)) | (go_at_call 27; refine (HPv.out _).mono ?_; rintro e w5 ⟨rfl, hb5⟩; have HC1 := Lib.hid (hstep HS4.out hb5)))
            all_goals
              go_wp2_with fail
              go_roundw
              case rel => exact ⟨k + 1, by omega, by go_num, by rw [HF.out.1]; congr 1; omega, by rw [HF.out.2]; congr 1; omega, Lib.hid (hfar HB4.out HNg.out HC2.out)⟩
              case measure => simp [intOf]; omega
      · obtain rfl : k = n := by omega
        rw [List.take_of_length_le (by rw [HN.out]; exact Nat.le_refl _)]
        go_wp2_with fail
        go_ret2
        exact ⟨rfl, HB.out.1⟩
end Go.Proofs.Ytkcnhdponcbjaaa
