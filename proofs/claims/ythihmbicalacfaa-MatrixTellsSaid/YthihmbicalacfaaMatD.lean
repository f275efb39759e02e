/-
  matrix: applied: two sums of products, each rounded; it gives up with ErrRange where a number is out of range. Apply.
-/
import Derived.Test.YthihmbicalacfaaMatC
import Derived.Deep.RegionHeld
namespace Go.Proofs.Ythihmbicalacfaa
open Go.RowKit Fix Mat

/-- How applied ends. -/
def appEnd (m : Mx) (x y : Int) : Ending := if appO m x y then .returned (ptV (appA m x y) (appB m x y)) else gUp 2
theorem appEnd_m {m : Mx} {x y : Int} (h : okM m = false) : appEnd m x y = gUp 2 := by unfold appEnd appO; rw [h]; rfl
theorem appEnd_one {m : Mx} {x y : Int} (h : (inRange x && inRange y && inRange (appA m x y)) = false) : appEnd m x y = gUp 2 := by unfold appEnd appO; rw [h, Bool.false_and, Bool.and_false]; rfl
theorem appEnd_two {m : Mx} {x y : Int} (h : inRange (appB m x y) = false) : appEnd m x y = gUp 2 := by unfold appEnd appO; rw [h, Bool.and_false, Bool.and_false]; rfl
theorem appEnd_ok {m : Mx} {x y : Int} (hm : okM m = true) (h : (inRange x && inRange y && inRange (appA m x y)) = true) (h2 : inRange (appB m x y) = true) : appEnd m x y = .returned (ptV (appA m x y) (appB m x y)) := by unfold appEnd appO; rw [hm, h, h2]; rfl
theorem dotA_ok {m : Mx} {x y : Int} (hm : okM m = true) (h : (inRange x && inRange y && inRange (appA m x y)) = true) : dotN [x, m.a, y, m.c, m.e, 10000] = appA m x y ∧ dotE [x, m.a, y, m.c, m.e, 10000] = 0 := by
  obtain ⟨h1, h2, h3, h4, h5, h6⟩ := okM_yes hm
  simp only [Bool.and_eq_true] at h
  exact dot6_yes h.1.1 h1 h.1.2 h3 h5 h.2
theorem dotB_ok {m : Mx} {x y : Int} (hm : okM m = true) (h : (inRange x && inRange y && inRange (appA m x y)) = true) (hb : inRange (appB m x y) = true) : dotN [x, m.b, y, m.d, m.f, 10000] = appB m x y ∧ dotE [x, m.b, y, m.d, m.f, 10000] = 0 := by
  obtain ⟨h1, h2, h3, h4, h5, h6⟩ := okM_yes hm
  simp only [Bool.and_eq_true] at h
  exact dot6_yes h.1.1 h2 h.1.2 h4 h6 hb
theorem dotA_no {m : Mx} {x y : Int} (h : (inRange x && inRange y && inRange (appA m x y)) = false) : dotN [x, m.a, y, m.c, m.e, 10000] = 0 ∧ dotE [x, m.a, y, m.c, m.e, 10000] = 2 := by
  by_cases hq : inRange (appA m x y) = true
  · refine dot_bad6 ?_
    rw [hq, Bool.and_true] at h
    revert h
    cases inRange x <;> cases inRange y <;> cases inRange m.a <;> cases inRange m.c <;> cases inRange m.e <;> simp
  · exact dot6_no hq
theorem dotB_no {m : Mx} {x y : Int} (h : inRange (appB m x y) = false) : dotN [x, m.b, y, m.d, m.f, 10000] = 0 ∧ dotE [x, m.b, y, m.d, m.f, 10000] = 2 :=
  dot6_no (a := x) (b := m.b) (c := y) (d := m.d) (e := m.f) (by unfold appB at h; rw [h]; exact Bool.false_ne_true)
theorem two_cells {w : World} {g : Nat} {t : TypeId} {v0 v1 : Value} (h : Blk w g t #[v0, v1]) : w.cell? ⟨g, 0, none⟩ = some v0 ∧ w.cell? ⟨g, 1, none⟩ = some v1 := ⟨(h.cell 0).trans rfl, (h.cell 1).trans rfl⟩

set_option maxRecDepth 100000 in
set_option maxHeartbeats 16000000 in
theorem applied_none (m : Mx) (x y : Int) (w : World) (hm : ¬ okM m = true) :
    Calls Try.prog 43 #[mxV m, ptV x y] w fun e w' => e = appEnd m x y ∧ Below w.heap.size w w' := by
  unfold mxV ptV
  obtain ⟨N, hN⟩ : ∃ N, w.heap.size = N := ⟨_, rfl⟩
  obtain ⟨B, hB⟩ : ∃ B, N + 1 = B := ⟨_, rfl⟩
  obtain ⟨R, hR⟩ : ∃ R, B + 1 = R := ⟨_, rfl⟩
  obtain ⟨V, hV⟩ : ∃ V, ((w.alloc (.cells #[.int .i64 m.a, .int .i64 m.b, .int .i64 m.c, .int .i64 m.d, .int .i64 m.e, .int .i64 m.f] 23)).alloc (.cells #[.int .i64 x, .int .i64 y] 25)).alloc (.cells #[.int .i64 0, .int .i64 0] 25) = V := ⟨_, rfl⟩
  have hVs : V.heap.size = R + 1 := by rw [← hV]; simp [hN]; omega
  have bA : Blk V N 23 #[.int .i64 m.a, .int .i64 m.b, .int .i64 m.c, .int .i64 m.d, .int .i64 m.e, .int .i64 m.f] := by
    rw [← hV, ← hN]
    exact ((Blk.new w _ _).alloc _).alloc _
  have bB : Blk V B 25 #[.int .i64 x, .int .i64 y] := by
    rw [← hV]
    have := (Blk.new (w.alloc (.cells #[.int .i64 m.a, .int .i64 m.b, .int .i64 m.c, .int .i64 m.d, .int .i64 m.e, .int .i64 m.f] 23)) 25 #[.int .i64 x, .int .i64 y]).alloc (.cells #[.int .i64 0, .int .i64 0] 25)
    rw [World.size_alloc, hN, hB] at this
    exact this
  have bR : Blk V R 25 #[.int .i64 0, .int .i64 0] := by
    rw [← hV]
    have := Blk.new ((w.alloc (.cells #[.int .i64 m.a, .int .i64 m.b, .int .i64 m.c, .int .i64 m.d, .int .i64 m.e, .int .i64 m.f] 23)).alloc (.cells #[.int .i64 x, .int .i64 y] 25)) 25 #[.int .i64 0, .int .i64 0]
    rw [World.size_alloc, World.size_alloc, hN, hB, hR] at this
    exact this
  have hBV : Below N w V := by
    rw [← hV, ← hN]
    exact (((Below.refl _ w).alloc (Nat.le_refl _) _).alloc (by simp) _).alloc (by simp; omega) _
  obtain ⟨⟨a0, a1, a2, a3, a4, a5⟩, _⟩ := six_cells bA
  have HV := Lib.hid (And.intro bA (And.intro bB (And.intro bR (And.intro hBV hVs))))
  have HC := Lib.hid (chk_no hm)
  have HE := Lib.hid (appEnd_m (x := x) (y := y) (Bool.eq_false_iff.2 hm))
  rw [hN]
  go_enter Try.func43, Try.ntmps43
  go_upto_region 1 with fail
  clear bA bB bR hBV hVs hV hm 
  go_wp2_with fail
  refine (check_any m V).mono ?_
  rintro e W ⟨rfl, hb⟩
  rw [HC.out]
  have HB2 := Lib.hid (HV.out.2.2.2.1.trans (hb.mono (by rw [HV.out.2.2.2.2]; omega)))
  clear hb
  go_wp2_with fail
  refine (upOn_two _).mono ?_
  rintro e w' ⟨rfl, rfl⟩
  exact ⟨rfl, HE.out.symm, HB2.out⟩

set_option maxRecDepth 100000 in
set_option maxHeartbeats 16000000 in
theorem applied_ok (m : Mx) (x y : Int) (u v : Int) (w : World) (hm : okM m = true) (h1 : (inRange x && inRange y && inRange (appA m x y)) = true) (h2 : inRange (appB m x y) = true) (hu : appA m x y = u) (hv : appB m x y = v) :
    Calls Try.prog 43 #[mxV m, ptV x y] w fun e w' => e = appEnd m x y ∧ Below w.heap.size w w' := by
  unfold mxV ptV
  obtain ⟨N, hN⟩ : ∃ N, w.heap.size = N := ⟨_, rfl⟩
  obtain ⟨B, hB⟩ : ∃ B, N + 1 = B := ⟨_, rfl⟩
  obtain ⟨R, hR⟩ : ∃ R, B + 1 = R := ⟨_, rfl⟩
  obtain ⟨V, hV⟩ : ∃ V, ((w.alloc (.cells #[.int .i64 m.a, .int .i64 m.b, .int .i64 m.c, .int .i64 m.d, .int .i64 m.e, .int .i64 m.f] 23)).alloc (.cells #[.int .i64 x, .int .i64 y] 25)).alloc (.cells #[.int .i64 0, .int .i64 0] 25) = V := ⟨_, rfl⟩
  have hVs : V.heap.size = R + 1 := by rw [← hV]; simp [hN]; omega
  have bA : Blk V N 23 #[.int .i64 m.a, .int .i64 m.b, .int .i64 m.c, .int .i64 m.d, .int .i64 m.e, .int .i64 m.f] := by
    rw [← hV, ← hN]
    exact ((Blk.new w _ _).alloc _).alloc _
  have bB : Blk V B 25 #[.int .i64 x, .int .i64 y] := by
    rw [← hV]
    have := (Blk.new (w.alloc (.cells #[.int .i64 m.a, .int .i64 m.b, .int .i64 m.c, .int .i64 m.d, .int .i64 m.e, .int .i64 m.f] 23)) 25 #[.int .i64 x, .int .i64 y]).alloc (.cells #[.int .i64 0, .int .i64 0] 25)
    rw [World.size_alloc, hN, hB] at this
    exact this
  have bR : Blk V R 25 #[.int .i64 0, .int .i64 0] := by
    rw [← hV]
    have := Blk.new ((w.alloc (.cells #[.int .i64 m.a, .int .i64 m.b, .int .i64 m.c, .int .i64 m.d, .int .i64 m.e, .int .i64 m.f] 23)).alloc (.cells #[.int .i64 x, .int .i64 y] 25)) 25 #[.int .i64 0, .int .i64 0]
    rw [World.size_alloc, World.size_alloc, hN, hB, hR] at this
    exact this
  have hBV : Below N w V := by
    rw [← hV, ← hN]
    exact (((Below.refl _ w).alloc (Nat.le_refl _) _).alloc (by simp) _).alloc (by simp; omega) _
  obtain ⟨⟨a0, a1, a2, a3, a4, a5⟩, _⟩ := six_cells bA
  have HV := Lib.hid (And.intro bA (And.intro bB (And.intro bR (And.intro hBV hVs))))
  have HC := Lib.hid (chk_yes hm)
  have HA1 := Lib.hid (dotA_ok hm h1)
  have HA2 := Lib.hid (dotB_ok hm h1 h2)
  have HE := Lib.hid (appEnd_ok hm h1 h2)
  rw [hu] at HA1 HE
  rw [hv] at HA2 HE
  unfold ptV at HE
  rw [hN]
  go_enter Try.func43, Try.ntmps43
  go_upto_region 1 with fail
  clear bA bB bR hBV hVs hV hm h1 h2 hu hv
  go_wp2_with fail
  refine (check_any m V).mono ?_
  rintro e W ⟨rfl, hb⟩
  rw [HC.out]
  clear a0 a1 a2 a3 a4 a5
  obtain ⟨Z, hZ⟩ : ∃ Z, W.heap.size = Z := ⟨_, rfl⟩
  have HZ : Hid (Z ≤ W.heap.size) := Lib.hid (by omega)
  have hVZ : V.heap.size ≤ Z := by rw [← hZ]; exact hb.size
  have HNZ : Hid (N ≤ Z) := Lib.hid (by have := HV.out.2.2.2.2; omega)
  have HNR : Hid (N ≤ R) := Lib.hid (by omega)
  have HRZ : Hid (R < Z) := Lib.hid (by have := HV.out.2.2.2.2; omega)
  have HAW := Lib.hid (HV.out.1.below hb HV.out.1.lt)
  have HBP := Lib.hid (HV.out.2.1.below hb HV.out.2.1.lt)
  have HRW := Lib.hid (HV.out.2.2.1.below hb HV.out.2.2.1.lt)
  have HBW := Lib.hid (HV.out.2.2.2.1.trans (hb.mono (by rw [HV.out.2.2.2.2]; omega)))
  have HS : Hid (∀ W2, Below Z W W2 → (W2.cell? ⟨N, 0, none⟩ = some (.int .i64 m.a) ∧ W2.cell? ⟨N, 1, none⟩ = some (.int .i64 m.b) ∧ W2.cell? ⟨N, 2, none⟩ = some (.int .i64 m.c) ∧ W2.cell? ⟨N, 3, none⟩ = some (.int .i64 m.d) ∧ W2.cell? ⟨N, 4, none⟩ = some (.int .i64 m.e) ∧ W2.cell? ⟨N, 5, none⟩ = some (.int .i64 m.f) ∧ W2.cell? ⟨B, 0, none⟩ = some (.int .i64 x) ∧ W2.cell? ⟨B, 1, none⟩ = some (.int .i64 y))) := Lib.hid (fun W2 hb2 => by
    obtain ⟨⟨t0, t1, t2, t3, t4, t5⟩, _⟩ := six_cells (HAW.out.below hb2 (by have := HRZ.out; omega))
    obtain ⟨t6, t7⟩ := two_cells (HBP.out.below hb2 (by have := HRZ.out; omega))
    exact ⟨t0, t1, t2, t3, t4, t5, t6, t7⟩)
  have HSR : Hid (∀ W1, Below Z W W1 → (fun W2 : World => W2.cell? ⟨N, 0, none⟩ = some (.int .i64 m.a) ∧ W2.cell? ⟨N, 1, none⟩ = some (.int .i64 m.b) ∧ W2.cell? ⟨N, 2, none⟩ = some (.int .i64 m.c) ∧ W2.cell? ⟨N, 3, none⟩ = some (.int .i64 m.d) ∧ W2.cell? ⟨N, 4, none⟩ = some (.int .i64 m.e) ∧ W2.cell? ⟨N, 5, none⟩ = some (.int .i64 m.f) ∧ W2.cell? ⟨B, 0, none⟩ = some (.int .i64 x) ∧ W2.cell? ⟨B, 1, none⟩ = some (.int .i64 y)) ((W1.setCell ⟨R, 0, none⟩ (.int .i64 u)).setCell ⟨R, 1, none⟩ (.int .i64 v))) := Lib.hid (fun W1 hb2 => by
    obtain ⟨⟨t0, t1, t2, t3, t4, t5⟩, _⟩ := six_cells (((HAW.out.below hb2 (by have := HRZ.out; omega)).far (p := ⟨R, 0, none⟩) (by simp; omega) (.int .i64 u)).far (p := ⟨R, 1, none⟩) (by simp; omega) (.int .i64 v))
    obtain ⟨t6, t7⟩ := two_cells (((HBP.out.below hb2 (by have := HRZ.out; omega)).far (p := ⟨R, 0, none⟩) (by simp; omega) (.int .i64 u)).far (p := ⟨R, 1, none⟩) (by simp; omega) (.int .i64 v))
    exact ⟨t0, t1, t2, t3, t4, t5, t6, t7⟩)
  clear hb hVZ hZ hN hB hR HV
  go_wp2_with fail
  refine (upOn_ok _).mono ?_
  rintro e w' ⟨rfl, rfl⟩
  go_upto_region 2 with fail
  refine wp_region_held_drew (S := fun W2 => W2.cell? ⟨N, 0, none⟩ = some (.int .i64 m.a) ∧ W2.cell? ⟨N, 1, none⟩ = some (.int .i64 m.b) ∧ W2.cell? ⟨N, 2, none⟩ = some (.int .i64 m.c) ∧ W2.cell? ⟨N, 3, none⟩ = some (.int .i64 m.d) ∧ W2.cell? ⟨N, 4, none⟩ = some (.int .i64 m.e) ∧ W2.cell? ⟨N, 5, none⟩ = some (.int .i64 m.f) ∧ W2.cell? ⟨B, 0, none⟩ = some (.int .i64 x) ∧ W2.cell? ⟨B, 1, none⟩ = some (.int .i64 y)) (by kernel_rfl) (HS.out _ ((Below.refl _ W).drew)) (fun hHeld => ?_)
  obtain ⟨U, hU⟩ : ∃ U, W.drew = U := ⟨_, rfl⟩
  have HBU : Hid (Below Z W U) := Lib.hid (by rw [← hU]; exact (Below.refl _ W).drew)
  rw [hU] at hHeld
  rw [hU]
  clear hU
  refine wpAnyH_take (i := 0) (v := ?v0) rfl (by kernel_rfl) (by kernel_rfl) (by kernel_rfl) (fun _ _ _ h => h) (Or.inl ⟨by rfl, ?hy0⟩) hHeld ?rest0
  case hy0 => (intro w hSw; obtain ⟨s0, s1, s2, s3, s4, s5, s6, s7⟩ := hSw; go_simp; first | done | with_reducible rfl)
  case rest0 =>
    try simp only [Act.put, List.setIfInBounds_toArray]
    refine wpAnyH_take (i := 1) (v := ?v1) rfl (by kernel_rfl) (by kernel_rfl) (by kernel_rfl) (fun _ _ _ h => h) (Or.inl ⟨by rfl, ?hy1⟩) hHeld ?rest1
    case hy1 => (intro w hSw; obtain ⟨s0, s1, s2, s3, s4, s5, s6, s7⟩ := hSw; go_simp; first | done | with_reducible rfl)
    case rest1 =>
      try simp only [Act.put]
      refine wpAnyH_take (i := 2) (v := ?v2) rfl (by kernel_rfl) (by kernel_rfl) (by kernel_rfl) (fun _ _ _ h => h) (Or.inl ⟨by rfl, ?hy2⟩) hHeld ?rest2
      case hy2 => (intro w hSw; obtain ⟨s0, s1, s2, s3, s4, s5, s6, s7⟩ := hSw; go_simp; first | done | with_reducible rfl)
      case rest2 =>
        try simp only [Act.put]
        refine wpAnyH_take (i := 3) (v := ?v3) rfl (by kernel_rfl) (by kernel_rfl) (by kernel_rfl) (fun _ _ _ h => h) (Or.inl ⟨by rfl, ?hy3⟩) hHeld ?rest3
        case hy3 => (intro w hSw; obtain ⟨s0, s1, s2, s3, s4, s5, s6, s7⟩ := hSw; go_simp; first | done | with_reducible rfl)
        case rest3 =>
          try simp only [Act.put]
          refine wpAnyH_take (i := 4) (v := ?v4) rfl (by kernel_rfl) (by kernel_rfl) (by kernel_rfl) (fun _ _ _ h => h) (Or.inl ⟨by rfl, ?hy4⟩) hHeld ?rest4
          case hy4 => (intro w hSw; obtain ⟨s0, s1, s2, s3, s4, s5, s6, s7⟩ := hSw; go_simp; first | done | with_reducible rfl)
          case rest4 =>
            try simp only [Act.put]
            refine wpAnyH_take (i := 5) (v := ?v5) rfl (by kernel_rfl) (by kernel_rfl) (by kernel_rfl) (fun _ _ _ h => h) (Or.inl ⟨by rfl, ?hy5⟩) hHeld ?rest5
            case hy5 => (intro w hSw; obtain ⟨s0, s1, s2, s3, s4, s5, s6, s7⟩ := hSw; go_simp; first | done | with_reducible rfl)
            case rest5 =>
              try simp only [Act.put]
              refine wpAnyH_take (i := 6) (v := ?v6) rfl (by kernel_rfl) (by kernel_rfl) (by kernel_rfl) (fun _ _ _ h => h) (Or.inl ⟨by rfl, ?hy6⟩) hHeld ?rest6
              case hy6 => (intro w hSw; obtain ⟨s0, s1, s2, s3, s4, s5, s6, s7⟩ := hSw; go_simp; first | done | with_reducible rfl)
              case rest6 =>
                try simp only [Act.put]
                refine wpAnyH_take (i := 7) (v := ?v7) rfl (by kernel_rfl) (by kernel_rfl) (by kernel_rfl) (fun _ _ _ h => h) (Or.inl ⟨by rfl, ?hy7⟩) hHeld ?rest7
                case hy7 => (intro w hSw; obtain ⟨s0, s1, s2, s3, s4, s5, s6, s7⟩ := hSw; go_simp; first | done | with_reducible rfl)
                case rest7 =>
                  try simp only [Act.put]
                  refine wpAnyH_take (i := 8) (v := ?v8) rfl (by kernel_rfl) (by kernel_rfl) (by kernel_rfl) (fun _ _ _ h => h) (Or.inl ⟨by rfl, ?hy8⟩) hHeld ?rest8
                  case hy8 => (intro w hSw; obtain ⟨s0, s1, s2, s3, s4, s5, s6, s7⟩ := hSw; go_simp; first | done | with_reducible rfl)
                  case rest8 =>
                    try simp only [Act.put]
                    refine wpAnyH_take (i := 9) (v := ?v9) rfl (by kernel_rfl) (by kernel_rfl) (by kernel_rfl) (fun _ _ _ h => h) (Or.inl ⟨by rfl, ?hy9⟩) hHeld ?rest9
                    case hy9 => (intro w hSw; obtain ⟨s0, s1, s2, s3, s4, s5, s6, s7⟩ := hSw; go_simp; first | done | with_reducible rfl)
                    case rest9 =>
                      try simp only [Act.put]
                      refine wpAnyH_take (i := 15) (v := ?v10) rfl (by kernel_rfl) (by kernel_rfl) (by kernel_rfl) (fun _ _ _ h => h) (Or.inl ⟨by rfl, ?hy10⟩) hHeld ?rest10
                      case hy10 => (intro w hSw; obtain ⟨s0, s1, s2, s3, s4, s5, s6, s7⟩ := hSw; go_simp; first | done | with_reducible rfl)
                      case rest10 =>
                        try simp only [Act.put]
                        refine wpAnyH_take (i := 16) (v := ?v11) rfl (by kernel_rfl) (by kernel_rfl) (by kernel_rfl) (fun _ _ _ h => h) (Or.inl ⟨by rfl, ?hy11⟩) hHeld ?rest11
                        case hy11 => (intro w hSw; obtain ⟨s0, s1, s2, s3, s4, s5, s6, s7⟩ := hSw; go_simp; first | done | with_reducible rfl)
                        case rest11 =>
                          try simp only [Act.put]
                          refine wpAnyH_take (i := 17) (v := ?v12) rfl (by kernel_rfl) (by kernel_rfl) (by kernel_rfl) (fun _ _ _ h => h) (Or.inl ⟨by rfl, ?hy12⟩) hHeld ?rest12
                          case hy12 => (intro w hSw; obtain ⟨s0, s1, s2, s3, s4, s5, s6, s7⟩ := hSw; go_simp; first | done | with_reducible rfl)
                          case rest12 =>
                            try simp only [Act.put]
                            refine wpAnyH_take (i := 18) (v := ?v13) rfl (by kernel_rfl) (by kernel_rfl) (by kernel_rfl) (fun _ _ _ h => h) (Or.inl ⟨by rfl, ?hy13⟩) hHeld ?rest13
                            case hy13 => (intro w hSw; obtain ⟨s0, s1, s2, s3, s4, s5, s6, s7⟩ := hSw; go_simp; first | done | with_reducible rfl)
                            case rest13 =>
                              try simp only [Act.put]
                              refine wpAnyH_take (i := 19) (v := ?v14) rfl (by kernel_rfl) (by kernel_rfl) (by kernel_rfl) (fun _ _ _ h => h) (Or.inl ⟨by rfl, ?hy14⟩) hHeld ?rest14
                              case hy14 => (intro w hSw; obtain ⟨s0, s1, s2, s3, s4, s5, s6, s7⟩ := hSw; go_simp; first | done | with_reducible rfl)
                              case rest14 =>
                                try simp only [Act.put]
                                refine wpAnyH_take (i := 20) (v := ?v15) rfl (by kernel_rfl) (by kernel_rfl) (by kernel_rfl) (fun _ _ _ h => h) (Or.inl ⟨by rfl, ?hy15⟩) hHeld ?rest15
                                case hy15 => (intro w hSw; obtain ⟨s0, s1, s2, s3, s4, s5, s6, s7⟩ := hSw; go_simp; first | done | with_reducible rfl)
                                case rest15 =>
                                  try simp only [Act.put]
                                  refine wpAnyH_take (i := 21) (v := ?v16) rfl (by kernel_rfl) (by kernel_rfl) (by kernel_rfl) (fun _ _ _ h => h) (Or.inl ⟨by rfl, ?hy16⟩) hHeld ?rest16
                                  case hy16 => (intro w hSw; obtain ⟨s0, s1, s2, s3, s4, s5, s6, s7⟩ := hSw; go_simp; first | done | with_reducible rfl)
                                  case rest16 =>
                                    try simp only [Act.put]
                                    refine wpAnyH_take (i := 22) (v := ?v17) rfl (by kernel_rfl) (by kernel_rfl) (by kernel_rfl) (fun _ _ _ h => h) (Or.inl ⟨by rfl, ?hy17⟩) hHeld ?rest17
                                    case hy17 => (intro w hSw; obtain ⟨s0, s1, s2, s3, s4, s5, s6, s7⟩ := hSw; go_simp; first | done | with_reducible rfl)
                                    case rest17 =>
                                      try simp only [Act.put]
                                      refine wpAnyH_take (i := 23) (v := ?v18) rfl (by kernel_rfl) (by kernel_rfl) (by kernel_rfl) (fun _ _ _ h => h) (Or.inl ⟨by rfl, ?hy18⟩) hHeld ?rest18
                                      case hy18 => (intro w hSw; obtain ⟨s0, s1, s2, s3, s4, s5, s6, s7⟩ := hSw; go_simp; first | done | with_reducible rfl)
                                      case rest18 =>
                                        try simp only [Act.put]
                                        refine wpAnyH_take (i := 24) (v := ?v19) rfl (by kernel_rfl) (by kernel_rfl) (by kernel_rfl) (fun _ _ _ h => h) (Or.inl ⟨by rfl, ?hy19⟩) hHeld ?rest19
                                        case hy19 => (intro w hSw; obtain ⟨s0, s1, s2, s3, s4, s5, s6, s7⟩ := hSw; go_simp; first | done | with_reducible rfl)
                                        case rest19 =>
                                          try simp only [Act.put]
                                          refine wpAnyH_ready (rs := [10, 25]) (by kernel_rfl) (by simp) ?_
                                          refine AllReadyH.cons rfl (fun K hK => ?_) ?_
                                          · go_simp
                                            refine hK.out _ _ (HS.out _ (HBU.out.alloc (Nat.le_trans HZ.out HBU.out.size) _)) (fun hHeld => ?_)
                                            clear hK K
                                            obtain ⟨G20, hG⟩ : ∃ G, U.heap.size = G := ⟨_, rfl⟩
                                            obtain ⟨U20, hU⟩ : ∃ X, U.alloc (.cells #[.int .i64 x, .int .i64 m.a, .int .i64 y, .int .i64 m.c, .int .i64 m.e, .int .i64 10000] 2) = X := ⟨_, rfl⟩
                                            have HB20 : Hid (Below Z W U20) := Lib.hid (by rw [← hU]; exact HBU.out.alloc (Nat.le_trans HZ.out HBU.out.size) _)
                                            have HR20 : Hid (ReadsInts U20 (some ⟨G20, 0, none⟩) [x, m.a, y, m.c, m.e, 10000]) := Lib.hid (by rw [← hU, ← hG]; exact reads6 _ _ _ _ _ _ _ _)
                                            rw [hU] at hHeld
                                            rw [hU, hG]
                                            clear hU hG
                                            refine wpAnyH_ready (rs := [11, 25]) (by kernel_rfl) (by simp) ?_
                                            refine AllReadyH.cons rfl (fun K hK => ?_) ?_
                                            · go_simp
                                              refine (dot6_c G20 6 x m.a y m.c m.e u 0 U20 HR20.out HA1.out.1 HA1.out.2).mono ?_
                                              rintro e U21 ⟨rfl, hb⟩
                                              have HB21 := Lib.hid (HB20.out.trans (hb.mono (Nat.le_trans HZ.out HB20.out.size)))
                                              refine hK.out _ _ (HS.out _ HB21.out) (fun hHeld => ?_)
                                              clear hb hK K
                                              refine wpAnyH_take (i := 12) (v := ?v22) rfl (by kernel_rfl) (by kernel_rfl) (by kernel_rfl) (fun _ _ _ h => h) (Or.inl ⟨by rfl, ?hy22⟩) hHeld ?rest22
                                              case hy22 => (intro w hSw; obtain ⟨s0, s1, s2, s3, s4, s5, s6, s7⟩ := hSw; go_simp; first | done | with_reducible rfl)
                                              case rest22 =>
                                                try simp only [Act.put, List.setIfInBounds_toArray]
                                                refine wpAnyH_take (i := 13) (v := ?v23) rfl (by kernel_rfl) (by kernel_rfl) (by kernel_rfl) (fun _ _ _ h => h) (Or.inl ⟨by rfl, ?hy23⟩) hHeld ?rest23
                                                case hy23 => (intro w hSw; obtain ⟨s0, s1, s2, s3, s4, s5, s6, s7⟩ := hSw; go_simp; first | done | with_reducible rfl)
                                                case rest23 =>
                                                  try simp only [Act.put]
                                                  refine wpAnyH_ready (rs := [14, 25]) (by kernel_rfl) (by simp) ?_
                                                  refine AllReadyH.cons rfl (fun K hK => ?_) ?_
                                                  · go_simp
                                                    refine (value_ok u U21).mono ?_
                                                    rintro e w' ⟨rfl, rfl⟩
                                                    refine hK.out _ _ (HS.out _ HB21.out) (fun hHeld => ?_)
                                                    clear hK K
                                                    refine wpAnyH_ready (rs := [25]) (by kernel_rfl) (by simp) ?_
                                                    refine AllReadyH.cons rfl (fun K hK => ?_) ?_
                                                    · go_simp
                                                      refine hK.out _ _ (HS.out _ (HB21.out.alloc (Nat.le_trans HZ.out HB21.out.size) _)) (fun hHeld => ?_)
                                                      clear hK K
                                                      obtain ⟨G25, hG⟩ : ∃ G, U21.heap.size = G := ⟨_, rfl⟩
                                                      obtain ⟨U25, hU⟩ : ∃ X, U21.alloc (.cells #[.int .i64 x, .int .i64 m.b, .int .i64 y, .int .i64 m.d, .int .i64 m.f, .int .i64 10000] 2) = X := ⟨_, rfl⟩
                                                      have HB25 : Hid (Below Z W U25) := Lib.hid (by rw [← hU]; exact HB21.out.alloc (Nat.le_trans HZ.out HB21.out.size) _)
                                                      have HR25 : Hid (ReadsInts U25 (some ⟨G25, 0, none⟩) [x, m.b, y, m.d, m.f, 10000]) := Lib.hid (by rw [← hU, ← hG]; exact reads6 _ _ _ _ _ _ _ _)
                                                      rw [hU] at hHeld
                                                      rw [hU, hG]
                                                      clear hU hG
                                                      refine wpAnyH_ready (rs := [26]) (by kernel_rfl) (by simp) ?_
                                                      refine AllReadyH.cons rfl (fun K hK => ?_) ?_
                                                      · go_simp
                                                        refine (dot6_c G25 6 x m.b y m.d m.f v 0 U25 HR25.out HA2.out.1 HA2.out.2).mono ?_
                                                        rintro e U26 ⟨rfl, hb⟩
                                                        have HB26 := Lib.hid (HB25.out.trans (hb.mono (Nat.le_trans HZ.out HB25.out.size)))
                                                        refine hK.out _ _ (HS.out _ HB26.out) (fun hHeld => ?_)
                                                        clear hb hK K
                                                        refine wpAnyH_take (i := 27) (v := ?v27) rfl (by kernel_rfl) (by kernel_rfl) (by kernel_rfl) (fun _ _ _ h => h) (Or.inl ⟨by rfl, ?hy27⟩) hHeld ?rest27
                                                        case hy27 => (intro w hSw; obtain ⟨s0, s1, s2, s3, s4, s5, s6, s7⟩ := hSw; go_simp; first | done | with_reducible rfl)
                                                        case rest27 =>
                                                          try simp only [Act.put, List.setIfInBounds_toArray]
                                                          refine wpAnyH_take (i := 28) (v := ?v28) rfl (by kernel_rfl) (by kernel_rfl) (by kernel_rfl) (fun _ _ _ h => h) (Or.inl ⟨by rfl, ?hy28⟩) hHeld ?rest28
                                                          case hy28 => (intro w hSw; obtain ⟨s0, s1, s2, s3, s4, s5, s6, s7⟩ := hSw; go_simp; first | done | with_reducible rfl)
                                                          case rest28 =>
                                                            try simp only [Act.put]
                                                            refine wpAnyH_ready (rs := [29]) (by kernel_rfl) (by simp) ?_
                                                            refine AllReadyH.cons rfl (fun K hK => ?_) ?_
                                                            · go_simp
                                                              refine (value_ok v U26).mono ?_
                                                              rintro e w' ⟨rfl, rfl⟩
                                                              refine hK.out _ _ (HS.out _ HB26.out) (fun hHeld => ?_)
                                                              clear hK K
                                                              refine wpAnyH_take (i := 30) (v := ?v30) rfl (by kernel_rfl) (by kernel_rfl) (by kernel_rfl) (fun _ _ _ h => h) (Or.inl ⟨by rfl, ?hy30⟩) hHeld ?rest30
                                                              case hy30 => (intro w hSw; obtain ⟨s0, s1, s2, s3, s4, s5, s6, s7⟩ := hSw; go_simp; first | done | with_reducible rfl)
                                                              case rest30 =>
                                                                try simp only [Act.put, List.setIfInBounds_toArray]
                                                                refine wpAnyH_ready (rs := [31]) (by kernel_rfl) (by simp) ?_
                                                                refine AllReadyH.cons rfl (fun K hK => ?_) ?_
                                                                · have hR2 := HRW.out.below HB26.out HRZ.out
                                                                  have d0 : U26.cell? ⟨R, 0, none⟩ = some (.int .i64 0) := (hR2.cell 0).trans rfl
                                                                  have d1 : U26.cell? ⟨R, 1, none⟩ = some (.int .i64 0) := (hR2.cell 1).trans rfl
                                                                  have g0 : U26.frozen? ⟨R, 0, none⟩ = false := hR2.frozen 0
                                                                  have g1 : U26.frozen? ⟨R, 1, none⟩ = false := hR2.frozen 1
                                                                  have HBe := Lib.hid (HBW.out.trans (HB26.out.mono HNZ.out))
                                                                  have HSe := Lib.hid (HSR.out U26 HB26.out)
                                                                  clear hR2
                                                                  go_simp
                                                                  refine hK.out _ _ HSe.out (fun hHeld => ?_)
                                                                  clear hK K
                                                                  refine wpAnyH_done (by kernel_rfl) ?_ _
                                                                  go_wp2_with fail
                                                                  exact bodyPost_ret (v := .agg #[.int .i64 u, .int .i64 v]) (by simp [results, Try.results43, go_sem, d0, d1]) rfl ⟨HE.out.symm, (HBe.out.setCell (p := ⟨R, 0, none⟩) HNR.out _).setCell (p := ⟨R, 1, none⟩) HNR.out _⟩
                                                                exact AllReadyH.nil
                                                            exact AllReadyH.nil
                                                      exact AllReadyH.nil
                                                    exact AllReadyH.nil
                                                  refine AllReadyH.cons rfl (fun K hK => ?_) ?_
                                                  · go_simp
                                                    refine hK.out _ _ (HS.out _ (HB21.out.alloc (Nat.le_trans HZ.out HB21.out.size) _)) (fun hHeld => ?_)
                                                    clear hK K
                                                    obtain ⟨G32, hG⟩ : ∃ G, U21.heap.size = G := ⟨_, rfl⟩
                                                    obtain ⟨U32, hU⟩ : ∃ X, U21.alloc (.cells #[.int .i64 x, .int .i64 m.b, .int .i64 y, .int .i64 m.d, .int .i64 m.f, .int .i64 10000] 2) = X := ⟨_, rfl⟩
                                                    have HB32 : Hid (Below Z W U32) := Lib.hid (by rw [← hU]; exact HB21.out.alloc (Nat.le_trans HZ.out HB21.out.size) _)
                                                    have HR32 : Hid (ReadsInts U32 (some ⟨G32, 0, none⟩) [x, m.b, y, m.d, m.f, 10000]) := Lib.hid (by rw [← hU, ← hG]; exact reads6 _ _ _ _ _ _ _ _)
                                                    rw [hU] at hHeld
                                                    rw [hU, hG]
                                                    clear hU hG
                                                    refine wpAnyH_ready (rs := [14]) (by kernel_rfl) (by simp) ?_
                                                    refine AllReadyH.cons rfl (fun K hK => ?_) ?_
                                                    · go_simp
                                                      refine (value_ok u U32).mono ?_
                                                      rintro e w' ⟨rfl, rfl⟩
                                                      refine hK.out _ _ (HS.out _ HB32.out) (fun hHeld => ?_)
                                                      clear hK K
                                                      refine wpAnyH_ready (rs := [26]) (by kernel_rfl) (by simp) ?_
                                                      refine AllReadyH.cons rfl (fun K hK => ?_) ?_
                                                      · go_simp
                                                        refine (dot6_c G32 6 x m.b y m.d m.f v 0 U32 HR32.out HA2.out.1 HA2.out.2).mono ?_
                                                        rintro e U34 ⟨rfl, hb⟩
                                                        have HB34 := Lib.hid (HB32.out.trans (hb.mono (Nat.le_trans HZ.out HB32.out.size)))
                                                        refine hK.out _ _ (HS.out _ HB34.out) (fun hHeld => ?_)
                                                        clear hb hK K
                                                        refine wpAnyH_take (i := 27) (v := ?v35) rfl (by kernel_rfl) (by kernel_rfl) (by kernel_rfl) (fun _ _ _ h => h) (Or.inl ⟨by rfl, ?hy35⟩) hHeld ?rest35
                                                        case hy35 => (intro w hSw; obtain ⟨s0, s1, s2, s3, s4, s5, s6, s7⟩ := hSw; go_simp; first | done | with_reducible rfl)
                                                        case rest35 =>
                                                          try simp only [Act.put, List.setIfInBounds_toArray]
                                                          refine wpAnyH_take (i := 28) (v := ?v36) rfl (by kernel_rfl) (by kernel_rfl) (by kernel_rfl) (fun _ _ _ h => h) (Or.inl ⟨by rfl, ?hy36⟩) hHeld ?rest36
                                                          case hy36 => (intro w hSw; obtain ⟨s0, s1, s2, s3, s4, s5, s6, s7⟩ := hSw; go_simp; first | done | with_reducible rfl)
                                                          case rest36 =>
                                                            try simp only [Act.put]
                                                            refine wpAnyH_ready (rs := [29]) (by kernel_rfl) (by simp) ?_
                                                            refine AllReadyH.cons rfl (fun K hK => ?_) ?_
                                                            · go_simp
                                                              refine (value_ok v U34).mono ?_
                                                              rintro e w' ⟨rfl, rfl⟩
                                                              refine hK.out _ _ (HS.out _ HB34.out) (fun hHeld => ?_)
                                                              clear hK K
                                                              refine wpAnyH_take (i := 30) (v := ?v38) rfl (by kernel_rfl) (by kernel_rfl) (by kernel_rfl) (fun _ _ _ h => h) (Or.inl ⟨by rfl, ?hy38⟩) hHeld ?rest38
                                                              case hy38 => (intro w hSw; obtain ⟨s0, s1, s2, s3, s4, s5, s6, s7⟩ := hSw; go_simp; first | done | with_reducible rfl)
                                                              case rest38 =>
                                                                try simp only [Act.put, List.setIfInBounds_toArray]
                                                                refine wpAnyH_ready (rs := [31]) (by kernel_rfl) (by simp) ?_
                                                                refine AllReadyH.cons rfl (fun K hK => ?_) ?_
                                                                · have hR2 := HRW.out.below HB34.out HRZ.out
                                                                  have d0 : U34.cell? ⟨R, 0, none⟩ = some (.int .i64 0) := (hR2.cell 0).trans rfl
                                                                  have d1 : U34.cell? ⟨R, 1, none⟩ = some (.int .i64 0) := (hR2.cell 1).trans rfl
                                                                  have g0 : U34.frozen? ⟨R, 0, none⟩ = false := hR2.frozen 0
                                                                  have g1 : U34.frozen? ⟨R, 1, none⟩ = false := hR2.frozen 1
                                                                  have HBe := Lib.hid (HBW.out.trans (HB34.out.mono HNZ.out))
                                                                  have HSe := Lib.hid (HSR.out U34 HB34.out)
                                                                  clear hR2
                                                                  go_simp
                                                                  refine hK.out _ _ HSe.out (fun hHeld => ?_)
                                                                  clear hK K
                                                                  refine wpAnyH_done (by kernel_rfl) ?_ _
                                                                  go_wp2_with fail
                                                                  exact bodyPost_ret (v := .agg #[.int .i64 u, .int .i64 v]) (by simp [results, Try.results43, go_sem, d0, d1]) rfl ⟨HE.out.symm, (HBe.out.setCell (p := ⟨R, 0, none⟩) HNR.out _).setCell (p := ⟨R, 1, none⟩) HNR.out _⟩
                                                                exact AllReadyH.nil
                                                            exact AllReadyH.nil
                                                      exact AllReadyH.nil
                                                    exact AllReadyH.nil
                                                  exact AllReadyH.nil
                                            refine AllReadyH.cons rfl (fun K hK => ?_) ?_
                                            · go_simp
                                              refine hK.out _ _ (HS.out _ (HB20.out.alloc (Nat.le_trans HZ.out HB20.out.size) _)) (fun hHeld => ?_)
                                              clear hK K
                                              obtain ⟨G40, hG⟩ : ∃ G, U20.heap.size = G := ⟨_, rfl⟩
                                              obtain ⟨U40, hU⟩ : ∃ X, U20.alloc (.cells #[.int .i64 x, .int .i64 m.b, .int .i64 y, .int .i64 m.d, .int .i64 m.f, .int .i64 10000] 2) = X := ⟨_, rfl⟩
                                              have HB40 : Hid (Below Z W U40) := Lib.hid (by rw [← hU]; exact HB20.out.alloc (Nat.le_trans HZ.out HB20.out.size) _)
                                              have HR40 : Hid (ReadsInts U40 (some ⟨G40, 0, none⟩) [x, m.b, y, m.d, m.f, 10000]) := Lib.hid (by rw [← hU, ← hG]; exact reads6 _ _ _ _ _ _ _ _)
                                              have HR40b : Hid (ReadsInts U40 (some ⟨G20, 0, none⟩) [x, m.a, y, m.c, m.e, 10000]) := Lib.hid (by rw [← hU]; exact reads_below HR20.out ((Below.refl _ U20).alloc (Nat.le_refl _) _))
                                              rw [hU] at hHeld
                                              rw [hU, hG]
                                              clear hU hG
                                              refine wpAnyH_ready (rs := [11]) (by kernel_rfl) (by simp) ?_
                                              refine AllReadyH.cons rfl (fun K hK => ?_) ?_
                                              · go_simp
                                                refine (dot6_c G20 6 x m.a y m.c m.e u 0 U40 HR40b.out HA1.out.1 HA1.out.2).mono ?_
                                                rintro e U41 ⟨rfl, hb⟩
                                                have HB41 := Lib.hid (HB40.out.trans (hb.mono (Nat.le_trans HZ.out HB40.out.size)))
                                                have HR41b := Lib.hid (reads_below HR40.out hb)
                                                refine hK.out _ _ (HS.out _ HB41.out) (fun hHeld => ?_)
                                                clear hb hK K
                                                refine wpAnyH_take (i := 12) (v := ?v42) rfl (by kernel_rfl) (by kernel_rfl) (by kernel_rfl) (fun _ _ _ h => h) (Or.inl ⟨by rfl, ?hy42⟩) hHeld ?rest42
                                                case hy42 => (intro w hSw; obtain ⟨s0, s1, s2, s3, s4, s5, s6, s7⟩ := hSw; go_simp; first | done | with_reducible rfl)
                                                case rest42 =>
                                                  try simp only [Act.put, List.setIfInBounds_toArray]
                                                  refine wpAnyH_take (i := 13) (v := ?v43) rfl (by kernel_rfl) (by kernel_rfl) (by kernel_rfl) (fun _ _ _ h => h) (Or.inl ⟨by rfl, ?hy43⟩) hHeld ?rest43
                                                  case hy43 => (intro w hSw; obtain ⟨s0, s1, s2, s3, s4, s5, s6, s7⟩ := hSw; go_simp; first | done | with_reducible rfl)
                                                  case rest43 =>
                                                    try simp only [Act.put]
                                                    refine wpAnyH_ready (rs := [14]) (by kernel_rfl) (by simp) ?_
                                                    refine AllReadyH.cons rfl (fun K hK => ?_) ?_
                                                    · go_simp
                                                      refine (value_ok u U41).mono ?_
                                                      rintro e w' ⟨rfl, rfl⟩
                                                      refine hK.out _ _ (HS.out _ HB41.out) (fun hHeld => ?_)
                                                      clear hK K
                                                      refine wpAnyH_ready (rs := [26]) (by kernel_rfl) (by simp) ?_
                                                      refine AllReadyH.cons rfl (fun K hK => ?_) ?_
                                                      · go_simp
                                                        refine (dot6_c G40 6 x m.b y m.d m.f v 0 U41 HR41b.out HA2.out.1 HA2.out.2).mono ?_
                                                        rintro e U45 ⟨rfl, hb⟩
                                                        have HB45 := Lib.hid (HB41.out.trans (hb.mono (Nat.le_trans HZ.out HB41.out.size)))
                                                        refine hK.out _ _ (HS.out _ HB45.out) (fun hHeld => ?_)
                                                        clear hb hK K
                                                        refine wpAnyH_take (i := 27) (v := ?v46) rfl (by kernel_rfl) (by kernel_rfl) (by kernel_rfl) (fun _ _ _ h => h) (Or.inl ⟨by rfl, ?hy46⟩) hHeld ?rest46
                                                        case hy46 => (intro w hSw; obtain ⟨s0, s1, s2, s3, s4, s5, s6, s7⟩ := hSw; go_simp; first | done | with_reducible rfl)
                                                        case rest46 =>
                                                          try simp only [Act.put, List.setIfInBounds_toArray]
                                                          refine wpAnyH_take (i := 28) (v := ?v47) rfl (by kernel_rfl) (by kernel_rfl) (by kernel_rfl) (fun _ _ _ h => h) (Or.inl ⟨by rfl, ?hy47⟩) hHeld ?rest47
                                                          case hy47 => (intro w hSw; obtain ⟨s0, s1, s2, s3, s4, s5, s6, s7⟩ := hSw; go_simp; first | done | with_reducible rfl)
                                                          case rest47 =>
                                                            try simp only [Act.put]
                                                            refine wpAnyH_ready (rs := [29]) (by kernel_rfl) (by simp) ?_
                                                            refine AllReadyH.cons rfl (fun K hK => ?_) ?_
                                                            · go_simp
                                                              refine (value_ok v U45).mono ?_
                                                              rintro e w' ⟨rfl, rfl⟩
                                                              refine hK.out _ _ (HS.out _ HB45.out) (fun hHeld => ?_)
                                                              clear hK K
                                                              refine wpAnyH_take (i := 30) (v := ?v49) rfl (by kernel_rfl) (by kernel_rfl) (by kernel_rfl) (fun _ _ _ h => h) (Or.inl ⟨by rfl, ?hy49⟩) hHeld ?rest49
                                                              case hy49 => (intro w hSw; obtain ⟨s0, s1, s2, s3, s4, s5, s6, s7⟩ := hSw; go_simp; first | done | with_reducible rfl)
                                                              case rest49 =>
                                                                try simp only [Act.put, List.setIfInBounds_toArray]
                                                                refine wpAnyH_ready (rs := [31]) (by kernel_rfl) (by simp) ?_
                                                                refine AllReadyH.cons rfl (fun K hK => ?_) ?_
                                                                · have hR2 := HRW.out.below HB45.out HRZ.out
                                                                  have d0 : U45.cell? ⟨R, 0, none⟩ = some (.int .i64 0) := (hR2.cell 0).trans rfl
                                                                  have d1 : U45.cell? ⟨R, 1, none⟩ = some (.int .i64 0) := (hR2.cell 1).trans rfl
                                                                  have g0 : U45.frozen? ⟨R, 0, none⟩ = false := hR2.frozen 0
                                                                  have g1 : U45.frozen? ⟨R, 1, none⟩ = false := hR2.frozen 1
                                                                  have HBe := Lib.hid (HBW.out.trans (HB45.out.mono HNZ.out))
                                                                  have HSe := Lib.hid (HSR.out U45 HB45.out)
                                                                  clear hR2
                                                                  go_simp
                                                                  refine hK.out _ _ HSe.out (fun hHeld => ?_)
                                                                  clear hK K
                                                                  refine wpAnyH_done (by kernel_rfl) ?_ _
                                                                  go_wp2_with fail
                                                                  exact bodyPost_ret (v := .agg #[.int .i64 u, .int .i64 v]) (by simp [results, Try.results43, go_sem, d0, d1]) rfl ⟨HE.out.symm, (HBe.out.setCell (p := ⟨R, 0, none⟩) HNR.out _).setCell (p := ⟨R, 1, none⟩) HNR.out _⟩
                                                                exact AllReadyH.nil
                                                            exact AllReadyH.nil
                                                      exact AllReadyH.nil
                                                    exact AllReadyH.nil
                                              exact AllReadyH.nil
                                            exact AllReadyH.nil
                                          refine AllReadyH.cons rfl (fun K hK => ?_) ?_
                                          · go_simp
                                            refine hK.out _ _ (HS.out _ (HBU.out.alloc (Nat.le_trans HZ.out HBU.out.size) _)) (fun hHeld => ?_)
                                            clear hK K
                                            obtain ⟨G51, hG⟩ : ∃ G, U.heap.size = G := ⟨_, rfl⟩
                                            obtain ⟨U51, hU⟩ : ∃ X, U.alloc (.cells #[.int .i64 x, .int .i64 m.b, .int .i64 y, .int .i64 m.d, .int .i64 m.f, .int .i64 10000] 2) = X := ⟨_, rfl⟩
                                            have HB51 : Hid (Below Z W U51) := Lib.hid (by rw [← hU]; exact HBU.out.alloc (Nat.le_trans HZ.out HBU.out.size) _)
                                            have HR51 : Hid (ReadsInts U51 (some ⟨G51, 0, none⟩) [x, m.b, y, m.d, m.f, 10000]) := Lib.hid (by rw [← hU, ← hG]; exact reads6 _ _ _ _ _ _ _ _)
                                            rw [hU] at hHeld
                                            rw [hU, hG]
                                            clear hU hG
                                            refine wpAnyH_ready (rs := [10]) (by kernel_rfl) (by simp) ?_
                                            refine AllReadyH.cons rfl (fun K hK => ?_) ?_
                                            · go_simp
                                              refine hK.out _ _ (HS.out _ (HB51.out.alloc (Nat.le_trans HZ.out HB51.out.size) _)) (fun hHeld => ?_)
                                              clear hK K
                                              obtain ⟨G52, hG⟩ : ∃ G, U51.heap.size = G := ⟨_, rfl⟩
                                              obtain ⟨U52, hU⟩ : ∃ X, U51.alloc (.cells #[.int .i64 x, .int .i64 m.a, .int .i64 y, .int .i64 m.c, .int .i64 m.e, .int .i64 10000] 2) = X := ⟨_, rfl⟩
                                              have HB52 : Hid (Below Z W U52) := Lib.hid (by rw [← hU]; exact HB51.out.alloc (Nat.le_trans HZ.out HB51.out.size) _)
                                              have HR52 : Hid (ReadsInts U52 (some ⟨G52, 0, none⟩) [x, m.a, y, m.c, m.e, 10000]) := Lib.hid (by rw [← hU, ← hG]; exact reads6 _ _ _ _ _ _ _ _)
                                              have HR52b : Hid (ReadsInts U52 (some ⟨G51, 0, none⟩) [x, m.b, y, m.d, m.f, 10000]) := Lib.hid (by rw [← hU]; exact reads_below HR51.out ((Below.refl _ U51).alloc (Nat.le_refl _) _))
                                              rw [hU] at hHeld
                                              rw [hU, hG]
                                              clear hU hG
                                              refine wpAnyH_ready (rs := [11]) (by kernel_rfl) (by simp) ?_
                                              refine AllReadyH.cons rfl (fun K hK => ?_) ?_
                                              · go_simp
                                                refine (dot6_c G52 6 x m.a y m.c m.e u 0 U52 HR52.out HA1.out.1 HA1.out.2).mono ?_
                                                rintro e U53 ⟨rfl, hb⟩
                                                have HB53 := Lib.hid (HB52.out.trans (hb.mono (Nat.le_trans HZ.out HB52.out.size)))
                                                have HR53b := Lib.hid (reads_below HR52b.out hb)
                                                refine hK.out _ _ (HS.out _ HB53.out) (fun hHeld => ?_)
                                                clear hb hK K
                                                refine wpAnyH_take (i := 12) (v := ?v54) rfl (by kernel_rfl) (by kernel_rfl) (by kernel_rfl) (fun _ _ _ h => h) (Or.inl ⟨by rfl, ?hy54⟩) hHeld ?rest54
                                                case hy54 => (intro w hSw; obtain ⟨s0, s1, s2, s3, s4, s5, s6, s7⟩ := hSw; go_simp; first | done | with_reducible rfl)
                                                case rest54 =>
                                                  try simp only [Act.put, List.setIfInBounds_toArray]
                                                  refine wpAnyH_take (i := 13) (v := ?v55) rfl (by kernel_rfl) (by kernel_rfl) (by kernel_rfl) (fun _ _ _ h => h) (Or.inl ⟨by rfl, ?hy55⟩) hHeld ?rest55
                                                  case hy55 => (intro w hSw; obtain ⟨s0, s1, s2, s3, s4, s5, s6, s7⟩ := hSw; go_simp; first | done | with_reducible rfl)
                                                  case rest55 =>
                                                    try simp only [Act.put]
                                                    refine wpAnyH_ready (rs := [14]) (by kernel_rfl) (by simp) ?_
                                                    refine AllReadyH.cons rfl (fun K hK => ?_) ?_
                                                    · go_simp
                                                      refine (value_ok u U53).mono ?_
                                                      rintro e w' ⟨rfl, rfl⟩
                                                      refine hK.out _ _ (HS.out _ HB53.out) (fun hHeld => ?_)
                                                      clear hK K
                                                      refine wpAnyH_ready (rs := [26]) (by kernel_rfl) (by simp) ?_
                                                      refine AllReadyH.cons rfl (fun K hK => ?_) ?_
                                                      · go_simp
                                                        refine (dot6_c G51 6 x m.b y m.d m.f v 0 U53 HR53b.out HA2.out.1 HA2.out.2).mono ?_
                                                        rintro e U57 ⟨rfl, hb⟩
                                                        have HB57 := Lib.hid (HB53.out.trans (hb.mono (Nat.le_trans HZ.out HB53.out.size)))
                                                        refine hK.out _ _ (HS.out _ HB57.out) (fun hHeld => ?_)
                                                        clear hb hK K
                                                        refine wpAnyH_take (i := 27) (v := ?v58) rfl (by kernel_rfl) (by kernel_rfl) (by kernel_rfl) (fun _ _ _ h => h) (Or.inl ⟨by rfl, ?hy58⟩) hHeld ?rest58
                                                        case hy58 => (intro w hSw; obtain ⟨s0, s1, s2, s3, s4, s5, s6, s7⟩ := hSw; go_simp; first | done | with_reducible rfl)
                                                        case rest58 =>
                                                          try simp only [Act.put, List.setIfInBounds_toArray]
                                                          refine wpAnyH_take (i := 28) (v := ?v59) rfl (by kernel_rfl) (by kernel_rfl) (by kernel_rfl) (fun _ _ _ h => h) (Or.inl ⟨by rfl, ?hy59⟩) hHeld ?rest59
                                                          case hy59 => (intro w hSw; obtain ⟨s0, s1, s2, s3, s4, s5, s6, s7⟩ := hSw; go_simp; first | done | with_reducible rfl)
                                                          case rest59 =>
                                                            try simp only [Act.put]
                                                            refine wpAnyH_ready (rs := [29]) (by kernel_rfl) (by simp) ?_
                                                            refine AllReadyH.cons rfl (fun K hK => ?_) ?_
                                                            · go_simp
                                                              refine (value_ok v U57).mono ?_
                                                              rintro e w' ⟨rfl, rfl⟩
                                                              refine hK.out _ _ (HS.out _ HB57.out) (fun hHeld => ?_)
                                                              clear hK K
                                                              refine wpAnyH_take (i := 30) (v := ?v61) rfl (by kernel_rfl) (by kernel_rfl) (by kernel_rfl) (fun _ _ _ h => h) (Or.inl ⟨by rfl, ?hy61⟩) hHeld ?rest61
                                                              case hy61 => (intro w hSw; obtain ⟨s0, s1, s2, s3, s4, s5, s6, s7⟩ := hSw; go_simp; first | done | with_reducible rfl)
                                                              case rest61 =>
                                                                try simp only [Act.put, List.setIfInBounds_toArray]
                                                                refine wpAnyH_ready (rs := [31]) (by kernel_rfl) (by simp) ?_
                                                                refine AllReadyH.cons rfl (fun K hK => ?_) ?_
                                                                · have hR2 := HRW.out.below HB57.out HRZ.out
                                                                  have d0 : U57.cell? ⟨R, 0, none⟩ = some (.int .i64 0) := (hR2.cell 0).trans rfl
                                                                  have d1 : U57.cell? ⟨R, 1, none⟩ = some (.int .i64 0) := (hR2.cell 1).trans rfl
                                                                  have g0 : U57.frozen? ⟨R, 0, none⟩ = false := hR2.frozen 0
                                                                  have g1 : U57.frozen? ⟨R, 1, none⟩ = false := hR2.frozen 1
                                                                  have HBe := Lib.hid (HBW.out.trans (HB57.out.mono HNZ.out))
                                                                  have HSe := Lib.hid (HSR.out U57 HB57.out)
                                                                  clear hR2
                                                                  go_simp
                                                                  refine hK.out _ _ HSe.out (fun hHeld => ?_)
                                                                  clear hK K
                                                                  refine wpAnyH_done (by kernel_rfl) ?_ _
                                                                  go_wp2_with fail
                                                                  exact bodyPost_ret (v := .agg #[.int .i64 u, .int .i64 v]) (by simp [results, Try.results43, go_sem, d0, d1]) rfl ⟨HE.out.symm, (HBe.out.setCell (p := ⟨R, 0, none⟩) HNR.out _).setCell (p := ⟨R, 1, none⟩) HNR.out _⟩
                                                                exact AllReadyH.nil
                                                            exact AllReadyH.nil
                                                      exact AllReadyH.nil
                                                    exact AllReadyH.nil
                                              exact AllReadyH.nil
                                            exact AllReadyH.nil
                                          exact AllReadyH.nil

set_option maxRecDepth 100000 in
set_option maxHeartbeats 16000000 in
theorem applied_one (m : Mx) (x y : Int) (w : World) (hm : okM m = true) (h1 : (inRange x && inRange y && inRange (appA m x y)) = false) :
    Calls Try.prog 43 #[mxV m, ptV x y] w fun e w' => e = appEnd m x y ∧ Below w.heap.size w w' := by
  unfold mxV ptV
  obtain ⟨N, hN⟩ : ∃ N, w.heap.size = N := ⟨_, rfl⟩
  obtain ⟨B, hB⟩ : ∃ B, N + 1 = B := ⟨_, rfl⟩
  obtain ⟨R, hR⟩ : ∃ R, B + 1 = R := ⟨_, rfl⟩
  obtain ⟨V, hV⟩ : ∃ V, ((w.alloc (.cells #[.int .i64 m.a, .int .i64 m.b, .int .i64 m.c, .int .i64 m.d, .int .i64 m.e, .int .i64 m.f] 23)).alloc (.cells #[.int .i64 x, .int .i64 y] 25)).alloc (.cells #[.int .i64 0, .int .i64 0] 25) = V := ⟨_, rfl⟩
  have hVs : V.heap.size = R + 1 := by rw [← hV]; simp [hN]; omega
  have bA : Blk V N 23 #[.int .i64 m.a, .int .i64 m.b, .int .i64 m.c, .int .i64 m.d, .int .i64 m.e, .int .i64 m.f] := by
    rw [← hV, ← hN]
    exact ((Blk.new w _ _).alloc _).alloc _
  have bB : Blk V B 25 #[.int .i64 x, .int .i64 y] := by
    rw [← hV]
    have := (Blk.new (w.alloc (.cells #[.int .i64 m.a, .int .i64 m.b, .int .i64 m.c, .int .i64 m.d, .int .i64 m.e, .int .i64 m.f] 23)) 25 #[.int .i64 x, .int .i64 y]).alloc (.cells #[.int .i64 0, .int .i64 0] 25)
    rw [World.size_alloc, hN, hB] at this
    exact this
  have bR : Blk V R 25 #[.int .i64 0, .int .i64 0] := by
    rw [← hV]
    have := Blk.new ((w.alloc (.cells #[.int .i64 m.a, .int .i64 m.b, .int .i64 m.c, .int .i64 m.d, .int .i64 m.e, .int .i64 m.f] 23)).alloc (.cells #[.int .i64 x, .int .i64 y] 25)) 25 #[.int .i64 0, .int .i64 0]
    rw [World.size_alloc, World.size_alloc, hN, hB, hR] at this
    exact this
  have hBV : Below N w V := by
    rw [← hV, ← hN]
    exact (((Below.refl _ w).alloc (Nat.le_refl _) _).alloc (by simp) _).alloc (by simp; omega) _
  obtain ⟨⟨a0, a1, a2, a3, a4, a5⟩, _⟩ := six_cells bA
  have HV := Lib.hid (And.intro bA (And.intro bB (And.intro bR (And.intro hBV hVs))))
  have HC := Lib.hid (chk_yes hm)
  have HA1 := Lib.hid (dotA_no h1)
  have HE := Lib.hid (appEnd_one h1)
  rw [hN]
  go_enter Try.func43, Try.ntmps43
  go_upto_region 1 with fail
  clear bA bB bR hBV hVs hV hm h1
  go_wp2_with fail
  refine (check_any m V).mono ?_
  rintro e W ⟨rfl, hb⟩
  rw [HC.out]
  clear a0 a1 a2 a3 a4 a5
  obtain ⟨Z, hZ⟩ : ∃ Z, W.heap.size = Z := ⟨_, rfl⟩
  have HZ : Hid (Z ≤ W.heap.size) := Lib.hid (by omega)
  have hVZ : V.heap.size ≤ Z := by rw [← hZ]; exact hb.size
  have HNZ : Hid (N ≤ Z) := Lib.hid (by have := HV.out.2.2.2.2; omega)
  have HNR : Hid (N ≤ R) := Lib.hid (by omega)
  have HRZ : Hid (R < Z) := Lib.hid (by have := HV.out.2.2.2.2; omega)
  have HAW := Lib.hid (HV.out.1.below hb HV.out.1.lt)
  have HBP := Lib.hid (HV.out.2.1.below hb HV.out.2.1.lt)
  have HRW := Lib.hid (HV.out.2.2.1.below hb HV.out.2.2.1.lt)
  have HBW := Lib.hid (HV.out.2.2.2.1.trans (hb.mono (by rw [HV.out.2.2.2.2]; omega)))
  have HS : Hid (∀ W2, Below Z W W2 → (W2.cell? ⟨N, 0, none⟩ = some (.int .i64 m.a) ∧ W2.cell? ⟨N, 1, none⟩ = some (.int .i64 m.b) ∧ W2.cell? ⟨N, 2, none⟩ = some (.int .i64 m.c) ∧ W2.cell? ⟨N, 3, none⟩ = some (.int .i64 m.d) ∧ W2.cell? ⟨N, 4, none⟩ = some (.int .i64 m.e) ∧ W2.cell? ⟨N, 5, none⟩ = some (.int .i64 m.f) ∧ W2.cell? ⟨B, 0, none⟩ = some (.int .i64 x) ∧ W2.cell? ⟨B, 1, none⟩ = some (.int .i64 y))) := Lib.hid (fun W2 hb2 => by
    obtain ⟨⟨t0, t1, t2, t3, t4, t5⟩, _⟩ := six_cells (HAW.out.below hb2 (by have := HRZ.out; omega))
    obtain ⟨t6, t7⟩ := two_cells (HBP.out.below hb2 (by have := HRZ.out; omega))
    exact ⟨t0, t1, t2, t3, t4, t5, t6, t7⟩)
  clear hb hVZ hZ hN hB hR HV
  go_wp2_with fail
  refine (upOn_ok _).mono ?_
  rintro e w' ⟨rfl, rfl⟩
  go_upto_region 2 with fail
  refine wp_region_held_drew (S := fun W2 => W2.cell? ⟨N, 0, none⟩ = some (.int .i64 m.a) ∧ W2.cell? ⟨N, 1, none⟩ = some (.int .i64 m.b) ∧ W2.cell? ⟨N, 2, none⟩ = some (.int .i64 m.c) ∧ W2.cell? ⟨N, 3, none⟩ = some (.int .i64 m.d) ∧ W2.cell? ⟨N, 4, none⟩ = some (.int .i64 m.e) ∧ W2.cell? ⟨N, 5, none⟩ = some (.int .i64 m.f) ∧ W2.cell? ⟨B, 0, none⟩ = some (.int .i64 x) ∧ W2.cell? ⟨B, 1, none⟩ = some (.int .i64 y)) (by kernel_rfl) (HS.out _ ((Below.refl _ W).drew)) (fun hHeld => ?_)
  obtain ⟨U, hU⟩ : ∃ U, W.drew = U := ⟨_, rfl⟩
  have HBU : Hid (Below Z W U) := Lib.hid (by rw [← hU]; exact (Below.refl _ W).drew)
  rw [hU] at hHeld
  rw [hU]
  clear hU
  refine wpAnyH_take (i := 0) (v := ?v0) rfl (by kernel_rfl) (by kernel_rfl) (by kernel_rfl) (fun _ _ _ h => h) (Or.inl ⟨by rfl, ?hy0⟩) hHeld ?rest0
  case hy0 => (intro w hSw; obtain ⟨s0, s1, s2, s3, s4, s5, s6, s7⟩ := hSw; go_simp; first | done | with_reducible rfl)
  case rest0 =>
    try simp only [Act.put, List.setIfInBounds_toArray]
    refine wpAnyH_take (i := 1) (v := ?v1) rfl (by kernel_rfl) (by kernel_rfl) (by kernel_rfl) (fun _ _ _ h => h) (Or.inl ⟨by rfl, ?hy1⟩) hHeld ?rest1
    case hy1 => (intro w hSw; obtain ⟨s0, s1, s2, s3, s4, s5, s6, s7⟩ := hSw; go_simp; first | done | with_reducible rfl)
    case rest1 =>
      try simp only [Act.put]
      refine wpAnyH_take (i := 2) (v := ?v2) rfl (by kernel_rfl) (by kernel_rfl) (by kernel_rfl) (fun _ _ _ h => h) (Or.inl ⟨by rfl, ?hy2⟩) hHeld ?rest2
      case hy2 => (intro w hSw; obtain ⟨s0, s1, s2, s3, s4, s5, s6, s7⟩ := hSw; go_simp; first | done | with_reducible rfl)
      case rest2 =>
        try simp only [Act.put]
        refine wpAnyH_take (i := 3) (v := ?v3) rfl (by kernel_rfl) (by kernel_rfl) (by kernel_rfl) (fun _ _ _ h => h) (Or.inl ⟨by rfl, ?hy3⟩) hHeld ?rest3
        case hy3 => (intro w hSw; obtain ⟨s0, s1, s2, s3, s4, s5, s6, s7⟩ := hSw; go_simp; first | done | with_reducible rfl)
        case rest3 =>
          try simp only [Act.put]
          refine wpAnyH_take (i := 4) (v := ?v4) rfl (by kernel_rfl) (by kernel_rfl) (by kernel_rfl) (fun _ _ _ h => h) (Or.inl ⟨by rfl, ?hy4⟩) hHeld ?rest4
          case hy4 => (intro w hSw; obtain ⟨s0, s1, s2, s3, s4, s5, s6, s7⟩ := hSw; go_simp; first | done | with_reducible rfl)
          case rest4 =>
            try simp only [Act.put]
            refine wpAnyH_take (i := 5) (v := ?v5) rfl (by kernel_rfl) (by kernel_rfl) (by kernel_rfl) (fun _ _ _ h => h) (Or.inl ⟨by rfl, ?hy5⟩) hHeld ?rest5
            case hy5 => (intro w hSw; obtain ⟨s0, s1, s2, s3, s4, s5, s6, s7⟩ := hSw; go_simp; first | done | with_reducible rfl)
            case rest5 =>
              try simp only [Act.put]
              refine wpAnyH_take (i := 6) (v := ?v6) rfl (by kernel_rfl) (by kernel_rfl) (by kernel_rfl) (fun _ _ _ h => h) (Or.inl ⟨by rfl, ?hy6⟩) hHeld ?rest6
              case hy6 => (intro w hSw; obtain ⟨s0, s1, s2, s3, s4, s5, s6, s7⟩ := hSw; go_simp; first | done | with_reducible rfl)
              case rest6 =>
                try simp only [Act.put]
                refine wpAnyH_take (i := 7) (v := ?v7) rfl (by kernel_rfl) (by kernel_rfl) (by kernel_rfl) (fun _ _ _ h => h) (Or.inl ⟨by rfl, ?hy7⟩) hHeld ?rest7
                case hy7 => (intro w hSw; obtain ⟨s0, s1, s2, s3, s4, s5, s6, s7⟩ := hSw; go_simp; first | done | with_reducible rfl)
                case rest7 =>
                  try simp only [Act.put]
                  refine wpAnyH_take (i := 8) (v := ?v8) rfl (by kernel_rfl) (by kernel_rfl) (by kernel_rfl) (fun _ _ _ h => h) (Or.inl ⟨by rfl, ?hy8⟩) hHeld ?rest8
                  case hy8 => (intro w hSw; obtain ⟨s0, s1, s2, s3, s4, s5, s6, s7⟩ := hSw; go_simp; first | done | with_reducible rfl)
                  case rest8 =>
                    try simp only [Act.put]
                    refine wpAnyH_take (i := 9) (v := ?v9) rfl (by kernel_rfl) (by kernel_rfl) (by kernel_rfl) (fun _ _ _ h => h) (Or.inl ⟨by rfl, ?hy9⟩) hHeld ?rest9
                    case hy9 => (intro w hSw; obtain ⟨s0, s1, s2, s3, s4, s5, s6, s7⟩ := hSw; go_simp; first | done | with_reducible rfl)
                    case rest9 =>
                      try simp only [Act.put]
                      refine wpAnyH_take (i := 15) (v := ?v10) rfl (by kernel_rfl) (by kernel_rfl) (by kernel_rfl) (fun _ _ _ h => h) (Or.inl ⟨by rfl, ?hy10⟩) hHeld ?rest10
                      case hy10 => (intro w hSw; obtain ⟨s0, s1, s2, s3, s4, s5, s6, s7⟩ := hSw; go_simp; first | done | with_reducible rfl)
                      case rest10 =>
                        try simp only [Act.put]
                        refine wpAnyH_take (i := 16) (v := ?v11) rfl (by kernel_rfl) (by kernel_rfl) (by kernel_rfl) (fun _ _ _ h => h) (Or.inl ⟨by rfl, ?hy11⟩) hHeld ?rest11
                        case hy11 => (intro w hSw; obtain ⟨s0, s1, s2, s3, s4, s5, s6, s7⟩ := hSw; go_simp; first | done | with_reducible rfl)
                        case rest11 =>
                          try simp only [Act.put]
                          refine wpAnyH_take (i := 17) (v := ?v12) rfl (by kernel_rfl) (by kernel_rfl) (by kernel_rfl) (fun _ _ _ h => h) (Or.inl ⟨by rfl, ?hy12⟩) hHeld ?rest12
                          case hy12 => (intro w hSw; obtain ⟨s0, s1, s2, s3, s4, s5, s6, s7⟩ := hSw; go_simp; first | done | with_reducible rfl)
                          case rest12 =>
                            try simp only [Act.put]
                            refine wpAnyH_take (i := 18) (v := ?v13) rfl (by kernel_rfl) (by kernel_rfl) (by kernel_rfl) (fun _ _ _ h => h) (Or.inl ⟨by rfl, ?hy13⟩) hHeld ?rest13
                            case hy13 => (intro w hSw; obtain ⟨s0, s1, s2, s3, s4, s5, s6, s7⟩ := hSw; go_simp; first | done | with_reducible rfl)
                            case rest13 =>
                              try simp only [Act.put]
                              refine wpAnyH_take (i := 19) (v := ?v14) rfl (by kernel_rfl) (by kernel_rfl) (by kernel_rfl) (fun _ _ _ h => h) (Or.inl ⟨by rfl, ?hy14⟩) hHeld ?rest14
                              case hy14 => (intro w hSw; obtain ⟨s0, s1, s2, s3, s4, s5, s6, s7⟩ := hSw; go_simp; first | done | with_reducible rfl)
                              case rest14 =>
                                try simp only [Act.put]
                                refine wpAnyH_take (i := 20) (v := ?v15) rfl (by kernel_rfl) (by kernel_rfl) (by kernel_rfl) (fun _ _ _ h => h) (Or.inl ⟨by rfl, ?hy15⟩) hHeld ?rest15
                                case hy15 => (intro w hSw; obtain ⟨s0, s1, s2, s3, s4, s5, s6, s7⟩ := hSw; go_simp; first | done | with_reducible rfl)
                                case rest15 =>
                                  try simp only [Act.put]
                                  refine wpAnyH_take (i := 21) (v := ?v16) rfl (by kernel_rfl) (by kernel_rfl) (by kernel_rfl) (fun _ _ _ h => h) (Or.inl ⟨by rfl, ?hy16⟩) hHeld ?rest16
                                  case hy16 => (intro w hSw; obtain ⟨s0, s1, s2, s3, s4, s5, s6, s7⟩ := hSw; go_simp; first | done | with_reducible rfl)
                                  case rest16 =>
                                    try simp only [Act.put]
                                    refine wpAnyH_take (i := 22) (v := ?v17) rfl (by kernel_rfl) (by kernel_rfl) (by kernel_rfl) (fun _ _ _ h => h) (Or.inl ⟨by rfl, ?hy17⟩) hHeld ?rest17
                                    case hy17 => (intro w hSw; obtain ⟨s0, s1, s2, s3, s4, s5, s6, s7⟩ := hSw; go_simp; first | done | with_reducible rfl)
                                    case rest17 =>
                                      try simp only [Act.put]
                                      refine wpAnyH_take (i := 23) (v := ?v18) rfl (by kernel_rfl) (by kernel_rfl) (by kernel_rfl) (fun _ _ _ h => h) (Or.inl ⟨by rfl, ?hy18⟩) hHeld ?rest18
                                      case hy18 => (intro w hSw; obtain ⟨s0, s1, s2, s3, s4, s5, s6, s7⟩ := hSw; go_simp; first | done | with_reducible rfl)
                                      case rest18 =>
                                        try simp only [Act.put]
                                        refine wpAnyH_take (i := 24) (v := ?v19) rfl (by kernel_rfl) (by kernel_rfl) (by kernel_rfl) (fun _ _ _ h => h) (Or.inl ⟨by rfl, ?hy19⟩) hHeld ?rest19
                                        case hy19 => (intro w hSw; obtain ⟨s0, s1, s2, s3, s4, s5, s6, s7⟩ := hSw; go_simp; first | done | with_reducible rfl)
                                        case rest19 =>
                                          try simp only [Act.put]
                                          refine wpAnyH_ready (rs := [10, 25]) (by kernel_rfl) (by simp) ?_
                                          refine AllReadyH.cons rfl (fun K hK => ?_) ?_
                                          · go_simp
                                            refine hK.out _ _ (HS.out _ (HBU.out.alloc (Nat.le_trans HZ.out HBU.out.size) _)) (fun hHeld => ?_)
                                            clear hK K
                                            obtain ⟨G20, hG⟩ : ∃ G, U.heap.size = G := ⟨_, rfl⟩
                                            obtain ⟨U20, hU⟩ : ∃ X, U.alloc (.cells #[.int .i64 x, .int .i64 m.a, .int .i64 y, .int .i64 m.c, .int .i64 m.e, .int .i64 10000] 2) = X := ⟨_, rfl⟩
                                            have HB20 : Hid (Below Z W U20) := Lib.hid (by rw [← hU]; exact HBU.out.alloc (Nat.le_trans HZ.out HBU.out.size) _)
                                            have HR20 : Hid (ReadsInts U20 (some ⟨G20, 0, none⟩) [x, m.a, y, m.c, m.e, 10000]) := Lib.hid (by rw [← hU, ← hG]; exact reads6 _ _ _ _ _ _ _ _)
                                            rw [hU] at hHeld
                                            rw [hU, hG]
                                            clear hU hG
                                            refine wpAnyH_ready (rs := [11, 25]) (by kernel_rfl) (by simp) ?_
                                            refine AllReadyH.cons rfl (fun K hK => ?_) ?_
                                            · go_simp
                                              refine (dot6_c G20 6 x m.a y m.c m.e 0 2 U20 HR20.out HA1.out.1 HA1.out.2).mono ?_
                                              rintro e U21 ⟨rfl, hb⟩
                                              have HB21 := Lib.hid (HB20.out.trans (hb.mono (Nat.le_trans HZ.out HB20.out.size)))
                                              refine hK.out _ _ (HS.out _ HB21.out) (fun hHeld => ?_)
                                              clear hb hK K
                                              refine wpAnyH_take (i := 12) (v := ?v22) rfl (by kernel_rfl) (by kernel_rfl) (by kernel_rfl) (fun _ _ _ h => h) (Or.inl ⟨by rfl, ?hy22⟩) hHeld ?rest22
                                              case hy22 => (intro w hSw; obtain ⟨s0, s1, s2, s3, s4, s5, s6, s7⟩ := hSw; go_simp; first | done | with_reducible rfl)
                                              case rest22 =>
                                                try simp only [Act.put, List.setIfInBounds_toArray]
                                                refine wpAnyH_take (i := 13) (v := ?v23) rfl (by kernel_rfl) (by kernel_rfl) (by kernel_rfl) (fun _ _ _ h => h) (Or.inl ⟨by rfl, ?hy23⟩) hHeld ?rest23
                                                case hy23 => (intro w hSw; obtain ⟨s0, s1, s2, s3, s4, s5, s6, s7⟩ := hSw; go_simp; first | done | with_reducible rfl)
                                                case rest23 =>
                                                  try simp only [Act.put]
                                                  refine wpAnyH_ready (rs := [14, 25]) (by kernel_rfl) (by simp) ?_
                                                  refine AllReadyH.cons rfl (fun K hK => ?_) ?_
                                                  · go_simp
                                                    refine (value_two 0 U21).mono ?_
                                                    rintro e w' ⟨rfl, rfl⟩
                                                    exact ⟨rfl, HE.out.symm, HBW.out.trans (HB21.out.mono HNZ.out)⟩
                                                  refine AllReadyH.cons rfl (fun K hK => ?_) ?_
                                                  · go_simp
                                                    refine hK.out _ _ (HS.out _ (HB21.out.alloc (Nat.le_trans HZ.out HB21.out.size) _)) (fun hHeld => ?_)
                                                    clear hK K
                                                    obtain ⟨G25, hG⟩ : ∃ G, U21.heap.size = G := ⟨_, rfl⟩
                                                    obtain ⟨U25, hU⟩ : ∃ X, U21.alloc (.cells #[.int .i64 x, .int .i64 m.b, .int .i64 y, .int .i64 m.d, .int .i64 m.f, .int .i64 10000] 2) = X := ⟨_, rfl⟩
                                                    have HB25 : Hid (Below Z W U25) := Lib.hid (by rw [← hU]; exact HB21.out.alloc (Nat.le_trans HZ.out HB21.out.size) _)
                                                    have HR25 : Hid (ReadsInts U25 (some ⟨G25, 0, none⟩) [x, m.b, y, m.d, m.f, 10000]) := Lib.hid (by rw [← hU, ← hG]; exact reads6 _ _ _ _ _ _ _ _)
                                                    rw [hU] at hHeld
                                                    rw [hU, hG]
                                                    clear hU hG
                                                    refine wpAnyH_ready (rs := [14]) (by kernel_rfl) (by simp) ?_
                                                    refine AllReadyH.cons rfl (fun K hK => ?_) ?_
                                                    · go_simp
                                                      refine (value_two 0 U25).mono ?_
                                                      rintro e w' ⟨rfl, rfl⟩
                                                      exact ⟨rfl, HE.out.symm, HBW.out.trans (HB25.out.mono HNZ.out)⟩
                                                    exact AllReadyH.nil
                                                  exact AllReadyH.nil
                                            refine AllReadyH.cons rfl (fun K hK => ?_) ?_
                                            · go_simp
                                              refine hK.out _ _ (HS.out _ (HB20.out.alloc (Nat.le_trans HZ.out HB20.out.size) _)) (fun hHeld => ?_)
                                              clear hK K
                                              obtain ⟨G27, hG⟩ : ∃ G, U20.heap.size = G := ⟨_, rfl⟩
                                              obtain ⟨U27, hU⟩ : ∃ X, U20.alloc (.cells #[.int .i64 x, .int .i64 m.b, .int .i64 y, .int .i64 m.d, .int .i64 m.f, .int .i64 10000] 2) = X := ⟨_, rfl⟩
                                              have HB27 : Hid (Below Z W U27) := Lib.hid (by rw [← hU]; exact HB20.out.alloc (Nat.le_trans HZ.out HB20.out.size) _)
                                              have HR27 : Hid (ReadsInts U27 (some ⟨G27, 0, none⟩) [x, m.b, y, m.d, m.f, 10000]) := Lib.hid (by rw [← hU, ← hG]; exact reads6 _ _ _ _ _ _ _ _)
                                              have HR27b : Hid (ReadsInts U27 (some ⟨G20, 0, none⟩) [x, m.a, y, m.c, m.e, 10000]) := Lib.hid (by rw [← hU]; exact reads_below HR20.out ((Below.refl _ U20).alloc (Nat.le_refl _) _))
                                              rw [hU] at hHeld
                                              rw [hU, hG]
                                              clear hU hG
                                              refine wpAnyH_ready (rs := [11]) (by kernel_rfl) (by simp) ?_
                                              refine AllReadyH.cons rfl (fun K hK => ?_) ?_
                                              · go_simp
                                                refine (dot6_c G20 6 x m.a y m.c m.e 0 2 U27 HR27b.out HA1.out.1 HA1.out.2).mono ?_
                                                rintro e U28 ⟨rfl, hb⟩
                                                have HB28 := Lib.hid (HB27.out.trans (hb.mono (Nat.le_trans HZ.out HB27.out.size)))
                                                have HR28b := Lib.hid (reads_below HR27.out hb)
                                                refine hK.out _ _ (HS.out _ HB28.out) (fun hHeld => ?_)
                                                clear hb hK K
                                                refine wpAnyH_take (i := 12) (v := ?v29) rfl (by kernel_rfl) (by kernel_rfl) (by kernel_rfl) (fun _ _ _ h => h) (Or.inl ⟨by rfl, ?hy29⟩) hHeld ?rest29
                                                case hy29 => (intro w hSw; obtain ⟨s0, s1, s2, s3, s4, s5, s6, s7⟩ := hSw; go_simp; first | done | with_reducible rfl)
                                                case rest29 =>
                                                  try simp only [Act.put, List.setIfInBounds_toArray]
                                                  refine wpAnyH_take (i := 13) (v := ?v30) rfl (by kernel_rfl) (by kernel_rfl) (by kernel_rfl) (fun _ _ _ h => h) (Or.inl ⟨by rfl, ?hy30⟩) hHeld ?rest30
                                                  case hy30 => (intro w hSw; obtain ⟨s0, s1, s2, s3, s4, s5, s6, s7⟩ := hSw; go_simp; first | done | with_reducible rfl)
                                                  case rest30 =>
                                                    try simp only [Act.put]
                                                    refine wpAnyH_ready (rs := [14]) (by kernel_rfl) (by simp) ?_
                                                    refine AllReadyH.cons rfl (fun K hK => ?_) ?_
                                                    · go_simp
                                                      refine (value_two 0 U28).mono ?_
                                                      rintro e w' ⟨rfl, rfl⟩
                                                      exact ⟨rfl, HE.out.symm, HBW.out.trans (HB28.out.mono HNZ.out)⟩
                                                    exact AllReadyH.nil
                                              exact AllReadyH.nil
                                            exact AllReadyH.nil
                                          refine AllReadyH.cons rfl (fun K hK => ?_) ?_
                                          · go_simp
                                            refine hK.out _ _ (HS.out _ (HBU.out.alloc (Nat.le_trans HZ.out HBU.out.size) _)) (fun hHeld => ?_)
                                            clear hK K
                                            obtain ⟨G32, hG⟩ : ∃ G, U.heap.size = G := ⟨_, rfl⟩
                                            obtain ⟨U32, hU⟩ : ∃ X, U.alloc (.cells #[.int .i64 x, .int .i64 m.b, .int .i64 y, .int .i64 m.d, .int .i64 m.f, .int .i64 10000] 2) = X := ⟨_, rfl⟩
                                            have HB32 : Hid (Below Z W U32) := Lib.hid (by rw [← hU]; exact HBU.out.alloc (Nat.le_trans HZ.out HBU.out.size) _)
                                            have HR32 : Hid (ReadsInts U32 (some ⟨G32, 0, none⟩) [x, m.b, y, m.d, m.f, 10000]) := Lib.hid (by rw [← hU, ← hG]; exact reads6 _ _ _ _ _ _ _ _)
                                            rw [hU] at hHeld
                                            rw [hU, hG]
                                            clear hU hG
                                            refine wpAnyH_ready (rs := [10]) (by kernel_rfl) (by simp) ?_
                                            refine AllReadyH.cons rfl (fun K hK => ?_) ?_
                                            · go_simp
                                              refine hK.out _ _ (HS.out _ (HB32.out.alloc (Nat.le_trans HZ.out HB32.out.size) _)) (fun hHeld => ?_)
                                              clear hK K
                                              obtain ⟨G33, hG⟩ : ∃ G, U32.heap.size = G := ⟨_, rfl⟩
                                              obtain ⟨U33, hU⟩ : ∃ X, U32.alloc (.cells #[.int .i64 x, .int .i64 m.a, .int .i64 y, .int .i64 m.c, .int .i64 m.e, .int .i64 10000] 2) = X := ⟨_, rfl⟩
                                              have HB33 : Hid (Below Z W U33) := Lib.hid (by rw [← hU]; exact HB32.out.alloc (Nat.le_trans HZ.out HB32.out.size) _)
                                              have HR33 : Hid (ReadsInts U33 (some ⟨G33, 0, none⟩) [x, m.a, y, m.c, m.e, 10000]) := Lib.hid (by rw [← hU, ← hG]; exact reads6 _ _ _ _ _ _ _ _)
                                              have HR33b : Hid (ReadsInts U33 (some ⟨G32, 0, none⟩) [x, m.b, y, m.d, m.f, 10000]) := Lib.hid (by rw [← hU]; exact reads_below HR32.out ((Below.refl _ U32).alloc (Nat.le_refl _) _))
                                              rw [hU] at hHeld
                                              rw [hU, hG]
                                              clear hU hG
                                              refine wpAnyH_ready (rs := [11]) (by kernel_rfl) (by simp) ?_
                                              refine AllReadyH.cons rfl (fun K hK => ?_) ?_
                                              · go_simp
                                                refine (dot6_c G33 6 x m.a y m.c m.e 0 2 U33 HR33.out HA1.out.1 HA1.out.2).mono ?_
                                                rintro e U34 ⟨rfl, hb⟩
                                                have HB34 := Lib.hid (HB33.out.trans (hb.mono (Nat.le_trans HZ.out HB33.out.size)))
                                                have HR34b := Lib.hid (reads_below HR33b.out hb)
                                                refine hK.out _ _ (HS.out _ HB34.out) (fun hHeld => ?_)
                                                clear hb hK K
                                                refine wpAnyH_take (i := 12) (v := ?v35) rfl (by kernel_rfl) (by kernel_rfl) (by kernel_rfl) (fun _ _ _ h => h) (Or.inl ⟨by rfl, ?hy35⟩) hHeld ?rest35
                                                case hy35 => (intro w hSw; obtain ⟨s0, s1, s2, s3, s4, s5, s6, s7⟩ := hSw; go_simp; first | done | with_reducible rfl)
                                                case rest35 =>
                                                  try simp only [Act.put, List.setIfInBounds_toArray]
                                                  refine wpAnyH_take (i := 13) (v := ?v36) rfl (by kernel_rfl) (by kernel_rfl) (by kernel_rfl) (fun _ _ _ h => h) (Or.inl ⟨by rfl, ?hy36⟩) hHeld ?rest36
                                                  case hy36 => (intro w hSw; obtain ⟨s0, s1, s2, s3, s4, s5, s6, s7⟩ := hSw; go_simp; first | done | with_reducible rfl)
                                                  case rest36 =>
                                                    try simp only [Act.put]
                                                    refine wpAnyH_ready (rs := [14]) (by kernel_rfl) (by simp) ?_
                                                    refine AllReadyH.cons rfl (fun K hK => ?_) ?_
                                                    · go_simp
                                                      refine (value_two 0 U34).mono ?_
                                                      rintro e w' ⟨rfl, rfl⟩
                                                      exact ⟨rfl, HE.out.symm, HBW.out.trans (HB34.out.mono HNZ.out)⟩
                                                    exact AllReadyH.nil
                                              exact AllReadyH.nil
                                            exact AllReadyH.nil
                                          exact AllReadyH.nil

set_option maxRecDepth 100000 in
set_option maxHeartbeats 16000000 in
theorem applied_two (m : Mx) (x y : Int) (u : Int) (w : World) (hm : okM m = true) (h1 : (inRange x && inRange y && inRange (appA m x y)) = true) (h2 : inRange (appB m x y) = false) (hu : appA m x y = u) :
    Calls Try.prog 43 #[mxV m, ptV x y] w fun e w' => e = appEnd m x y ∧ Below w.heap.size w w' := by
  unfold mxV ptV
  obtain ⟨N, hN⟩ : ∃ N, w.heap.size = N := ⟨_, rfl⟩
  obtain ⟨B, hB⟩ : ∃ B, N + 1 = B := ⟨_, rfl⟩
  obtain ⟨R, hR⟩ : ∃ R, B + 1 = R := ⟨_, rfl⟩
  obtain ⟨V, hV⟩ : ∃ V, ((w.alloc (.cells #[.int .i64 m.a, .int .i64 m.b, .int .i64 m.c, .int .i64 m.d, .int .i64 m.e, .int .i64 m.f] 23)).alloc (.cells #[.int .i64 x, .int .i64 y] 25)).alloc (.cells #[.int .i64 0, .int .i64 0] 25) = V := ⟨_, rfl⟩
  have hVs : V.heap.size = R + 1 := by rw [← hV]; simp [hN]; omega
  have bA : Blk V N 23 #[.int .i64 m.a, .int .i64 m.b, .int .i64 m.c, .int .i64 m.d, .int .i64 m.e, .int .i64 m.f] := by
    rw [← hV, ← hN]
    exact ((Blk.new w _ _).alloc _).alloc _
  have bB : Blk V B 25 #[.int .i64 x, .int .i64 y] := by
    rw [← hV]
    have := (Blk.new (w.alloc (.cells #[.int .i64 m.a, .int .i64 m.b, .int .i64 m.c, .int .i64 m.d, .int .i64 m.e, .int .i64 m.f] 23)) 25 #[.int .i64 x, .int .i64 y]).alloc (.cells #[.int .i64 0, .int .i64 0] 25)
    rw [World.size_alloc, hN, hB] at this
    exact this
  have bR : Blk V R 25 #[.int .i64 0, .int .i64 0] := by
    rw [← hV]
    have := Blk.new ((w.alloc (.cells #[.int .i64 m.a, .int .i64 m.b, .int .i64 m.c, .int .i64 m.d, .int .i64 m.e, .int .i64 m.f] 23)).alloc (.cells #[.int .i64 x, .int .i64 y] 25)) 25 #[.int .i64 0, .int .i64 0]
    rw [World.size_alloc, World.size_alloc, hN, hB, hR] at this
    exact this
  have hBV : Below N w V := by
    rw [← hV, ← hN]
    exact (((Below.refl _ w).alloc (Nat.le_refl _) _).alloc (by simp) _).alloc (by simp; omega) _
  obtain ⟨⟨a0, a1, a2, a3, a4, a5⟩, _⟩ := six_cells bA
  have HV := Lib.hid (And.intro bA (And.intro bB (And.intro bR (And.intro hBV hVs))))
  have HC := Lib.hid (chk_yes hm)
  have HA1 := Lib.hid (dotA_ok hm h1)
  have HA2 := Lib.hid (dotB_no h2)
  have HE := Lib.hid (appEnd_two h2)
  rw [hu] at HA1
  rw [hN]
  go_enter Try.func43, Try.ntmps43
  go_upto_region 1 with fail
  clear bA bB bR hBV hVs hV hm h1 h2 hu
  go_wp2_with fail
  refine (check_any m V).mono ?_
  rintro e W ⟨rfl, hb⟩
  rw [HC.out]
  clear a0 a1 a2 a3 a4 a5
  obtain ⟨Z, hZ⟩ : ∃ Z, W.heap.size = Z := ⟨_, rfl⟩
  have HZ : Hid (Z ≤ W.heap.size) := Lib.hid (by omega)
  have hVZ : V.heap.size ≤ Z := by rw [← hZ]; exact hb.size
  have HNZ : Hid (N ≤ Z) := Lib.hid (by have := HV.out.2.2.2.2; omega)
  have HNR : Hid (N ≤ R) := Lib.hid (by omega)
  have HRZ : Hid (R < Z) := Lib.hid (by have := HV.out.2.2.2.2; omega)
  have HAW := Lib.hid (HV.out.1.below hb HV.out.1.lt)
  have HBP := Lib.hid (HV.out.2.1.below hb HV.out.2.1.lt)
  have HRW := Lib.hid (HV.out.2.2.1.below hb HV.out.2.2.1.lt)
  have HBW := Lib.hid (HV.out.2.2.2.1.trans (hb.mono (by rw [HV.out.2.2.2.2]; omega)))
  have HS : Hid (∀ W2, Below Z W W2 → (W2.cell? ⟨N, 0, none⟩ = some (.int .i64 m.a) ∧ W2.cell? ⟨N, 1, none⟩ = some (.int .i64 m.b) ∧ W2.cell? ⟨N, 2, none⟩ = some (.int .i64 m.c) ∧ W2.cell? ⟨N, 3, none⟩ = some (.int .i64 m.d) ∧ W2.cell? ⟨N, 4, none⟩ = some (.int .i64 m.e) ∧ W2.cell? ⟨N, 5, none⟩ = some (.int .i64 m.f) ∧ W2.cell? ⟨B, 0, none⟩ = some (.int .i64 x) ∧ W2.cell? ⟨B, 1, none⟩ = some (.int .i64 y))) := Lib.hid (fun W2 hb2 => by
    obtain ⟨⟨t0, t1, t2, t3, t4, t5⟩, _⟩ := six_cells (HAW.out.below hb2 (by have := HRZ.out; omega))
    obtain ⟨t6, t7⟩ := two_cells (HBP.out.below hb2 (by have := HRZ.out; omega))
    exact ⟨t0, t1, t2, t3, t4, t5, t6, t7⟩)
  clear hb hVZ hZ hN hB hR HV
  go_wp2_with fail
  refine (upOn_ok _).mono ?_
  rintro e w' ⟨rfl, rfl⟩
  go_upto_region 2 with fail
  refine wp_region_held_drew (S := fun W2 => W2.cell? ⟨N, 0, none⟩ = some (.int .i64 m.a) ∧ W2.cell? ⟨N, 1, none⟩ = some (.int .i64 m.b) ∧ W2.cell? ⟨N, 2, none⟩ = some (.int .i64 m.c) ∧ W2.cell? ⟨N, 3, none⟩ = some (.int .i64 m.d) ∧ W2.cell? ⟨N, 4, none⟩ = some (.int .i64 m.e) ∧ W2.cell? ⟨N, 5, none⟩ = some (.int .i64 m.f) ∧ W2.cell? ⟨B, 0, none⟩ = some (.int .i64 x) ∧ W2.cell? ⟨B, 1, none⟩ = some (.int .i64 y)) (by kernel_rfl) (HS.out _ ((Below.refl _ W).drew)) (fun hHeld => ?_)
  obtain ⟨U, hU⟩ : ∃ U, W.drew = U := ⟨_, rfl⟩
  have HBU : Hid (Below Z W U) := Lib.hid (by rw [← hU]; exact (Below.refl _ W).drew)
  rw [hU] at hHeld
  rw [hU]
  clear hU
  refine wpAnyH_take (i := 0) (v := ?v0) rfl (by kernel_rfl) (by kernel_rfl) (by kernel_rfl) (fun _ _ _ h => h) (Or.inl ⟨by rfl, ?hy0⟩) hHeld ?rest0
  case hy0 => (intro w hSw; obtain ⟨s0, s1, s2, s3, s4, s5, s6, s7⟩ := hSw; go_simp; first | done | with_reducible rfl)
  case rest0 =>
    try simp only [Act.put, List.setIfInBounds_toArray]
    refine wpAnyH_take (i := 1) (v := ?v1) rfl (by kernel_rfl) (by kernel_rfl) (by kernel_rfl) (fun _ _ _ h => h) (Or.inl ⟨by rfl, ?hy1⟩) hHeld ?rest1
    case hy1 => (intro w hSw; obtain ⟨s0, s1, s2, s3, s4, s5, s6, s7⟩ := hSw; go_simp; first | done | with_reducible rfl)
    case rest1 =>
      try simp only [Act.put]
      refine wpAnyH_take (i := 2) (v := ?v2) rfl (by kernel_rfl) (by kernel_rfl) (by kernel_rfl) (fun _ _ _ h => h) (Or.inl ⟨by rfl, ?hy2⟩) hHeld ?rest2
      case hy2 => (intro w hSw; obtain ⟨s0, s1, s2, s3, s4, s5, s6, s7⟩ := hSw; go_simp; first | done | with_reducible rfl)
      case rest2 =>
        try simp only [Act.put]
        refine wpAnyH_take (i := 3) (v := ?v3) rfl (by kernel_rfl) (by kernel_rfl) (by kernel_rfl) (fun _ _ _ h => h) (Or.inl ⟨by rfl, ?hy3⟩) hHeld ?rest3
        case hy3 => (intro w hSw; obtain ⟨s0, s1, s2, s3, s4, s5, s6, s7⟩ := hSw; go_simp; first | done | with_reducible rfl)
        case rest3 =>
          try simp only [Act.put]
          refine wpAnyH_take (i := 4) (v := ?v4) rfl (by kernel_rfl) (by kernel_rfl) (by kernel_rfl) (fun _ _ _ h => h) (Or.inl ⟨by rfl, ?hy4⟩) hHeld ?rest4
          case hy4 => (intro w hSw; obtain ⟨s0, s1, s2, s3, s4, s5, s6, s7⟩ := hSw; go_simp; first | done | with_reducible rfl)
          case rest4 =>
            try simp only [Act.put]
            refine wpAnyH_take (i := 5) (v := ?v5) rfl (by kernel_rfl) (by kernel_rfl) (by kernel_rfl) (fun _ _ _ h => h) (Or.inl ⟨by rfl, ?hy5⟩) hHeld ?rest5
            case hy5 => (intro w hSw; obtain ⟨s0, s1, s2, s3, s4, s5, s6, s7⟩ := hSw; go_simp; first | done | with_reducible rfl)
            case rest5 =>
              try simp only [Act.put]
              refine wpAnyH_take (i := 6) (v := ?v6) rfl (by kernel_rfl) (by kernel_rfl) (by kernel_rfl) (fun _ _ _ h => h) (Or.inl ⟨by rfl, ?hy6⟩) hHeld ?rest6
              case hy6 => (intro w hSw; obtain ⟨s0, s1, s2, s3, s4, s5, s6, s7⟩ := hSw; go_simp; first | done | with_reducible rfl)
              case rest6 =>
                try simp only [Act.put]
                refine wpAnyH_take (i := 7) (v := ?v7) rfl (by kernel_rfl) (by kernel_rfl) (by kernel_rfl) (fun _ _ _ h => h) (Or.inl ⟨by rfl, ?hy7⟩) hHeld ?rest7
                case hy7 => (intro w hSw; obtain ⟨s0, s1, s2, s3, s4, s5, s6, s7⟩ := hSw; go_simp; first | done | with_reducible rfl)
                case rest7 =>
                  try simp only [Act.put]
                  refine wpAnyH_take (i := 8) (v := ?v8) rfl (by kernel_rfl) (by kernel_rfl) (by kernel_rfl) (fun _ _ _ h => h) (Or.inl ⟨by rfl, ?hy8⟩) hHeld ?rest8
                  case hy8 => (intro w hSw; obtain ⟨s0, s1, s2, s3, s4, s5, s6, s7⟩ := hSw; go_simp; first | done | with_reducible rfl)
                  case rest8 =>
                    try simp only [Act.put]
                    refine wpAnyH_take (i := 9) (v := ?v9) rfl (by kernel_rfl) (by kernel_rfl) (by kernel_rfl) (fun _ _ _ h => h) (Or.inl ⟨by rfl, ?hy9⟩) hHeld ?rest9
                    case hy9 => (intro w hSw; obtain ⟨s0, s1, s2, s3, s4, s5, s6, s7⟩ := hSw; go_simp; first | done | with_reducible rfl)
                    case rest9 =>
                      try simp only [Act.put]
                      refine wpAnyH_take (i := 15) (v := ?v10) rfl (by kernel_rfl) (by kernel_rfl) (by kernel_rfl) (fun _ _ _ h => h) (Or.inl ⟨by rfl, ?hy10⟩) hHeld ?rest10
                      case hy10 => (intro w hSw; obtain ⟨s0, s1, s2, s3, s4, s5, s6, s7⟩ := hSw; go_simp; first | done | with_reducible rfl)
                      case rest10 =>
                        try simp only [Act.put]
                        refine wpAnyH_take (i := 16) (v := ?v11) rfl (by kernel_rfl) (by kernel_rfl) (by kernel_rfl) (fun _ _ _ h => h) (Or.inl ⟨by rfl, ?hy11⟩) hHeld ?rest11
                        case hy11 => (intro w hSw; obtain ⟨s0, s1, s2, s3, s4, s5, s6, s7⟩ := hSw; go_simp; first | done | with_reducible rfl)
                        case rest11 =>
                          try simp only [Act.put]
                          refine wpAnyH_take (i := 17) (v := ?v12) rfl (by kernel_rfl) (by kernel_rfl) (by kernel_rfl) (fun _ _ _ h => h) (Or.inl ⟨by rfl, ?hy12⟩) hHeld ?rest12
                          case hy12 => (intro w hSw; obtain ⟨s0, s1, s2, s3, s4, s5, s6, s7⟩ := hSw; go_simp; first | done | with_reducible rfl)
                          case rest12 =>
                            try simp only [Act.put]
                            refine wpAnyH_take (i := 18) (v := ?v13) rfl (by kernel_rfl) (by kernel_rfl) (by kernel_rfl) (fun _ _ _ h => h) (Or.inl ⟨by rfl, ?hy13⟩) hHeld ?rest13
                            case hy13 => (intro w hSw; obtain ⟨s0, s1, s2, s3, s4, s5, s6, s7⟩ := hSw; go_simp; first | done | with_reducible rfl)
                            case rest13 =>
                              try simp only [Act.put]
                              refine wpAnyH_take (i := 19) (v := ?v14) rfl (by kernel_rfl) (by kernel_rfl) (by kernel_rfl) (fun _ _ _ h => h) (Or.inl ⟨by rfl, ?hy14⟩) hHeld ?rest14
                              case hy14 => (intro w hSw; obtain ⟨s0, s1, s2, s3, s4, s5, s6, s7⟩ := hSw; go_simp; first | done | with_reducible rfl)
                              case rest14 =>
                                try simp only [Act.put]
                                refine wpAnyH_take (i := 20) (v := ?v15) rfl (by kernel_rfl) (by kernel_rfl) (by kernel_rfl) (fun _ _ _ h => h) (Or.inl ⟨by rfl, ?hy15⟩) hHeld ?rest15
                                case hy15 => (intro w hSw; obtain ⟨s0, s1, s2, s3, s4, s5, s6, s7⟩ := hSw; go_simp; first | done | with_reducible rfl)
                                case rest15 =>
                                  try simp only [Act.put]
                                  refine wpAnyH_take (i := 21) (v := ?v16) rfl (by kernel_rfl) (by kernel_rfl) (by kernel_rfl) (fun _ _ _ h => h) (Or.inl ⟨by rfl, ?hy16⟩) hHeld ?rest16
                                  case hy16 => (intro w hSw; obtain ⟨s0, s1, s2, s3, s4, s5, s6, s7⟩ := hSw; go_simp; first | done | with_reducible rfl)
                                  case rest16 =>
                                    try simp only [Act.put]
                                    refine wpAnyH_take (i := 22) (v := ?v17) rfl (by kernel_rfl) (by kernel_rfl) (by kernel_rfl) (fun _ _ _ h => h) (Or.inl ⟨by rfl, ?hy17⟩) hHeld ?rest17
                                    case hy17 => (intro w hSw; obtain ⟨s0, s1, s2, s3, s4, s5, s6, s7⟩ := hSw; go_simp; first | done | with_reducible rfl)
                                    case rest17 =>
                                      try simp only [Act.put]
                                      refine wpAnyH_take (i := 23) (v := ?v18) rfl (by kernel_rfl) (by kernel_rfl) (by kernel_rfl) (fun _ _ _ h => h) (Or.inl ⟨by rfl, ?hy18⟩) hHeld ?rest18
                                      case hy18 => (intro w hSw; obtain ⟨s0, s1, s2, s3, s4, s5, s6, s7⟩ := hSw; go_simp; first | done | with_reducible rfl)
                                      case rest18 =>
                                        try simp only [Act.put]
                                        refine wpAnyH_take (i := 24) (v := ?v19) rfl (by kernel_rfl) (by kernel_rfl) (by kernel_rfl) (fun _ _ _ h => h) (Or.inl ⟨by rfl, ?hy19⟩) hHeld ?rest19
                                        case hy19 => (intro w hSw; obtain ⟨s0, s1, s2, s3, s4, s5, s6, s7⟩ := hSw; go_simp; first | done | with_reducible rfl)
                                        case rest19 =>
                                          try simp only [Act.put]
                                          refine wpAnyH_ready (rs := [10, 25]) (by kernel_rfl) (by simp) ?_
                                          refine AllReadyH.cons rfl (fun K hK => ?_) ?_
                                          · go_simp
                                            refine hK.out _ _ (HS.out _ (HBU.out.alloc (Nat.le_trans HZ.out HBU.out.size) _)) (fun hHeld => ?_)
                                            clear hK K
                                            obtain ⟨G20, hG⟩ : ∃ G, U.heap.size = G := ⟨_, rfl⟩
                                            obtain ⟨U20, hU⟩ : ∃ X, U.alloc (.cells #[.int .i64 x, .int .i64 m.a, .int .i64 y, .int .i64 m.c, .int .i64 m.e, .int .i64 10000] 2) = X := ⟨_, rfl⟩
                                            have HB20 : Hid (Below Z W U20) := Lib.hid (by rw [← hU]; exact HBU.out.alloc (Nat.le_trans HZ.out HBU.out.size) _)
                                            have HR20 : Hid (ReadsInts U20 (some ⟨G20, 0, none⟩) [x, m.a, y, m.c, m.e, 10000]) := Lib.hid (by rw [← hU, ← hG]; exact reads6 _ _ _ _ _ _ _ _)
                                            rw [hU] at hHeld
                                            rw [hU, hG]
                                            clear hU hG
                                            refine wpAnyH_ready (rs := [11, 25]) (by kernel_rfl) (by simp) ?_
                                            refine AllReadyH.cons rfl (fun K hK => ?_) ?_
                                            · go_simp
                                              refine (dot6_c G20 6 x m.a y m.c m.e u 0 U20 HR20.out HA1.out.1 HA1.out.2).mono ?_
                                              rintro e U21 ⟨rfl, hb⟩
                                              have HB21 := Lib.hid (HB20.out.trans (hb.mono (Nat.le_trans HZ.out HB20.out.size)))
                                              refine hK.out _ _ (HS.out _ HB21.out) (fun hHeld => ?_)
                                              clear hb hK K
                                              refine wpAnyH_take (i := 12) (v := ?v22) rfl (by kernel_rfl) (by kernel_rfl) (by kernel_rfl) (fun _ _ _ h => h) (Or.inl ⟨by rfl, ?hy22⟩) hHeld ?rest22
                                              case hy22 => (intro w hSw; obtain ⟨s0, s1, s2, s3, s4, s5, s6, s7⟩ := hSw; go_simp; first | done | with_reducible rfl)
                                              case rest22 =>
                                                try simp only [Act.put, List.setIfInBounds_toArray]
                                                refine wpAnyH_take (i := 13) (v := ?v23) rfl (by kernel_rfl) (by kernel_rfl) (by kernel_rfl) (fun _ _ _ h => h) (Or.inl ⟨by rfl, ?hy23⟩) hHeld ?rest23
                                                case hy23 => (intro w hSw; obtain ⟨s0, s1, s2, s3, s4, s5, s6, s7⟩ := hSw; go_simp; first | done | with_reducible rfl)
                                                case rest23 =>
                                                  try simp only [Act.put]
                                                  refine wpAnyH_ready (rs := [14, 25]) (by kernel_rfl) (by simp) ?_
                                                  refine AllReadyH.cons rfl (fun K hK => ?_) ?_
                                                  · go_simp
                                                    refine (value_ok u U21).mono ?_
                                                    rintro e w' ⟨rfl, rfl⟩
                                                    refine hK.out _ _ (HS.out _ HB21.out) (fun hHeld => ?_)
                                                    clear hK K
                                                    refine wpAnyH_ready (rs := [25]) (by kernel_rfl) (by simp) ?_
                                                    refine AllReadyH.cons rfl (fun K hK => ?_) ?_
                                                    · go_simp
                                                      refine hK.out _ _ (HS.out _ (HB21.out.alloc (Nat.le_trans HZ.out HB21.out.size) _)) (fun hHeld => ?_)
                                                      clear hK K
                                                      obtain ⟨G25, hG⟩ : ∃ G, U21.heap.size = G := ⟨_, rfl⟩
                                                      obtain ⟨U25, hU⟩ : ∃ X, U21.alloc (.cells #[.int .i64 x, .int .i64 m.b, .int .i64 y, .int .i64 m.d, .int .i64 m.f, .int .i64 10000] 2) = X := ⟨_, rfl⟩
                                                      have HB25 : Hid (Below Z W U25) := Lib.hid (by rw [← hU]; exact HB21.out.alloc (Nat.le_trans HZ.out HB21.out.size) _)
                                                      have HR25 : Hid (ReadsInts U25 (some ⟨G25, 0, none⟩) [x, m.b, y, m.d, m.f, 10000]) := Lib.hid (by rw [← hU, ← hG]; exact reads6 _ _ _ _ _ _ _ _)
                                                      rw [hU] at hHeld
                                                      rw [hU, hG]
                                                      clear hU hG
                                                      refine wpAnyH_ready (rs := [26]) (by kernel_rfl) (by simp) ?_
                                                      refine AllReadyH.cons rfl (fun K hK => ?_) ?_
                                                      · go_simp
                                                        refine (dot6_c G25 6 x m.b y m.d m.f 0 2 U25 HR25.out HA2.out.1 HA2.out.2).mono ?_
                                                        rintro e U26 ⟨rfl, hb⟩
                                                        have HB26 := Lib.hid (HB25.out.trans (hb.mono (Nat.le_trans HZ.out HB25.out.size)))
                                                        refine hK.out _ _ (HS.out _ HB26.out) (fun hHeld => ?_)
                                                        clear hb hK K
                                                        refine wpAnyH_take (i := 27) (v := ?v27) rfl (by kernel_rfl) (by kernel_rfl) (by kernel_rfl) (fun _ _ _ h => h) (Or.inl ⟨by rfl, ?hy27⟩) hHeld ?rest27
                                                        case hy27 => (intro w hSw; obtain ⟨s0, s1, s2, s3, s4, s5, s6, s7⟩ := hSw; go_simp; first | done | with_reducible rfl)
                                                        case rest27 =>
                                                          try simp only [Act.put, List.setIfInBounds_toArray]
                                                          refine wpAnyH_take (i := 28) (v := ?v28) rfl (by kernel_rfl) (by kernel_rfl) (by kernel_rfl) (fun _ _ _ h => h) (Or.inl ⟨by rfl, ?hy28⟩) hHeld ?rest28
                                                          case hy28 => (intro w hSw; obtain ⟨s0, s1, s2, s3, s4, s5, s6, s7⟩ := hSw; go_simp; first | done | with_reducible rfl)
                                                          case rest28 =>
                                                            try simp only [Act.put]
                                                            refine wpAnyH_ready (rs := [29]) (by kernel_rfl) (by simp) ?_
                                                            refine AllReadyH.cons rfl (fun K hK => ?_) ?_
                                                            · go_simp
                                                              refine (value_two 0 U26).mono ?_
                                                              rintro e w' ⟨rfl, rfl⟩
                                                              exact ⟨rfl, HE.out.symm, HBW.out.trans (HB26.out.mono HNZ.out)⟩
                                                            exact AllReadyH.nil
                                                      exact AllReadyH.nil
                                                    exact AllReadyH.nil
                                                  refine AllReadyH.cons rfl (fun K hK => ?_) ?_
                                                  · go_simp
                                                    refine hK.out _ _ (HS.out _ (HB21.out.alloc (Nat.le_trans HZ.out HB21.out.size) _)) (fun hHeld => ?_)
                                                    clear hK K
                                                    obtain ⟨G30, hG⟩ : ∃ G, U21.heap.size = G := ⟨_, rfl⟩
                                                    obtain ⟨U30, hU⟩ : ∃ X, U21.alloc (.cells #[.int .i64 x, .int .i64 m.b, .int .i64 y, .int .i64 m.d, .int .i64 m.f, .int .i64 10000] 2) = X := ⟨_, rfl⟩
                                                    have HB30 : Hid (Below Z W U30) := Lib.hid (by rw [← hU]; exact HB21.out.alloc (Nat.le_trans HZ.out HB21.out.size) _)
                                                    have HR30 : Hid (ReadsInts U30 (some ⟨G30, 0, none⟩) [x, m.b, y, m.d, m.f, 10000]) := Lib.hid (by rw [← hU, ← hG]; exact reads6 _ _ _ _ _ _ _ _)
                                                    rw [hU] at hHeld
                                                    rw [hU, hG]
                                                    clear hU hG
                                                    refine wpAnyH_ready (rs := [14]) (by kernel_rfl) (by simp) ?_
                                                    refine AllReadyH.cons rfl (fun K hK => ?_) ?_
                                                    · go_simp
                                                      refine (value_ok u U30).mono ?_
                                                      rintro e w' ⟨rfl, rfl⟩
                                                      refine hK.out _ _ (HS.out _ HB30.out) (fun hHeld => ?_)
                                                      clear hK K
                                                      refine wpAnyH_ready (rs := [26]) (by kernel_rfl) (by simp) ?_
                                                      refine AllReadyH.cons rfl (fun K hK => ?_) ?_
                                                      · go_simp
                                                        refine (dot6_c G30 6 x m.b y m.d m.f 0 2 U30 HR30.out HA2.out.1 HA2.out.2).mono ?_
                                                        rintro e U32 ⟨rfl, hb⟩
                                                        have HB32 := Lib.hid (HB30.out.trans (hb.mono (Nat.le_trans HZ.out HB30.out.size)))
                                                        refine hK.out _ _ (HS.out _ HB32.out) (fun hHeld => ?_)
                                                        clear hb hK K
                                                        refine wpAnyH_take (i := 27) (v := ?v33) rfl (by kernel_rfl) (by kernel_rfl) (by kernel_rfl) (fun _ _ _ h => h) (Or.inl ⟨by rfl, ?hy33⟩) hHeld ?rest33
                                                        case hy33 => (intro w hSw; obtain ⟨s0, s1, s2, s3, s4, s5, s6, s7⟩ := hSw; go_simp; first | done | with_reducible rfl)
                                                        case rest33 =>
                                                          try simp only [Act.put, List.setIfInBounds_toArray]
                                                          refine wpAnyH_take (i := 28) (v := ?v34) rfl (by kernel_rfl) (by kernel_rfl) (by kernel_rfl) (fun _ _ _ h => h) (Or.inl ⟨by rfl, ?hy34⟩) hHeld ?rest34
                                                          case hy34 => (intro w hSw; obtain ⟨s0, s1, s2, s3, s4, s5, s6, s7⟩ := hSw; go_simp; first | done | with_reducible rfl)
                                                          case rest34 =>
                                                            try simp only [Act.put]
                                                            refine wpAnyH_ready (rs := [29]) (by kernel_rfl) (by simp) ?_
                                                            refine AllReadyH.cons rfl (fun K hK => ?_) ?_
                                                            · go_simp
                                                              refine (value_two 0 U32).mono ?_
                                                              rintro e w' ⟨rfl, rfl⟩
                                                              exact ⟨rfl, HE.out.symm, HBW.out.trans (HB32.out.mono HNZ.out)⟩
                                                            exact AllReadyH.nil
                                                      exact AllReadyH.nil
                                                    exact AllReadyH.nil
                                                  exact AllReadyH.nil
                                            refine AllReadyH.cons rfl (fun K hK => ?_) ?_
                                            · go_simp
                                              refine hK.out _ _ (HS.out _ (HB20.out.alloc (Nat.le_trans HZ.out HB20.out.size) _)) (fun hHeld => ?_)
                                              clear hK K
                                              obtain ⟨G36, hG⟩ : ∃ G, U20.heap.size = G := ⟨_, rfl⟩
                                              obtain ⟨U36, hU⟩ : ∃ X, U20.alloc (.cells #[.int .i64 x, .int .i64 m.b, .int .i64 y, .int .i64 m.d, .int .i64 m.f, .int .i64 10000] 2) = X := ⟨_, rfl⟩
                                              have HB36 : Hid (Below Z W U36) := Lib.hid (by rw [← hU]; exact HB20.out.alloc (Nat.le_trans HZ.out HB20.out.size) _)
                                              have HR36 : Hid (ReadsInts U36 (some ⟨G36, 0, none⟩) [x, m.b, y, m.d, m.f, 10000]) := Lib.hid (by rw [← hU, ← hG]; exact reads6 _ _ _ _ _ _ _ _)
                                              have HR36b : Hid (ReadsInts U36 (some ⟨G20, 0, none⟩) [x, m.a, y, m.c, m.e, 10000]) := Lib.hid (by rw [← hU]; exact reads_below HR20.out ((Below.refl _ U20).alloc (Nat.le_refl _) _))
                                              rw [hU] at hHeld
                                              rw [hU, hG]
                                              clear hU hG
                                              refine wpAnyH_ready (rs := [11]) (by kernel_rfl) (by simp) ?_
                                              refine AllReadyH.cons rfl (fun K hK => ?_) ?_
                                              · go_simp
                                                refine (dot6_c G20 6 x m.a y m.c m.e u 0 U36 HR36b.out HA1.out.1 HA1.out.2).mono ?_
                                                rintro e U37 ⟨rfl, hb⟩
                                                have HB37 := Lib.hid (HB36.out.trans (hb.mono (Nat.le_trans HZ.out HB36.out.size)))
                                                have HR37b := Lib.hid (reads_below HR36.out hb)
                                                refine hK.out _ _ (HS.out _ HB37.out) (fun hHeld => ?_)
                                                clear hb hK K
                                                refine wpAnyH_take (i := 12) (v := ?v38) rfl (by kernel_rfl) (by kernel_rfl) (by kernel_rfl) (fun _ _ _ h => h) (Or.inl ⟨by rfl, ?hy38⟩) hHeld ?rest38
                                                case hy38 => (intro w hSw; obtain ⟨s0, s1, s2, s3, s4, s5, s6, s7⟩ := hSw; go_simp; first | done | with_reducible rfl)
                                                case rest38 =>
                                                  try simp only [Act.put, List.setIfInBounds_toArray]
                                                  refine wpAnyH_take (i := 13) (v := ?v39) rfl (by kernel_rfl) (by kernel_rfl) (by kernel_rfl) (fun _ _ _ h => h) (Or.inl ⟨by rfl, ?hy39⟩) hHeld ?rest39
                                                  case hy39 => (intro w hSw; obtain ⟨s0, s1, s2, s3, s4, s5, s6, s7⟩ := hSw; go_simp; first | done | with_reducible rfl)
                                                  case rest39 =>
                                                    try simp only [Act.put]
                                                    refine wpAnyH_ready (rs := [14]) (by kernel_rfl) (by simp) ?_
                                                    refine AllReadyH.cons rfl (fun K hK => ?_) ?_
                                                    · go_simp
                                                      refine (value_ok u U37).mono ?_
                                                      rintro e w' ⟨rfl, rfl⟩
                                                      refine hK.out _ _ (HS.out _ HB37.out) (fun hHeld => ?_)
                                                      clear hK K
                                                      refine wpAnyH_ready (rs := [26]) (by kernel_rfl) (by simp) ?_
                                                      refine AllReadyH.cons rfl (fun K hK => ?_) ?_
                                                      · go_simp
                                                        refine (dot6_c G36 6 x m.b y m.d m.f 0 2 U37 HR37b.out HA2.out.1 HA2.out.2).mono ?_
                                                        rintro e U41 ⟨rfl, hb⟩
                                                        have HB41 := Lib.hid (HB37.out.trans (hb.mono (Nat.le_trans HZ.out HB37.out.size)))
                                                        refine hK.out _ _ (HS.out _ HB41.out) (fun hHeld => ?_)
                                                        clear hb hK K
                                                        refine wpAnyH_take (i := 27) (v := ?v42) rfl (by kernel_rfl) (by kernel_rfl) (by kernel_rfl) (fun _ _ _ h => h) (Or.inl ⟨by rfl, ?hy42⟩) hHeld ?rest42
                                                        case hy42 => (intro w hSw; obtain ⟨s0, s1, s2, s3, s4, s5, s6, s7⟩ := hSw; go_simp; first | done | with_reducible rfl)
                                                        case rest42 =>
                                                          try simp only [Act.put, List.setIfInBounds_toArray]
                                                          refine wpAnyH_take (i := 28) (v := ?v43) rfl (by kernel_rfl) (by kernel_rfl) (by kernel_rfl) (fun _ _ _ h => h) (Or.inl ⟨by rfl, ?hy43⟩) hHeld ?rest43
                                                          case hy43 => (intro w hSw; obtain ⟨s0, s1, s2, s3, s4, s5, s6, s7⟩ := hSw; go_simp; first | done | with_reducible rfl)
                                                          case rest43 =>
                                                            try simp only [Act.put]
                                                            refine wpAnyH_ready (rs := [29]) (by kernel_rfl) (by simp) ?_
                                                            refine AllReadyH.cons rfl (fun K hK => ?_) ?_
                                                            · go_simp
                                                              refine (value_two 0 U41).mono ?_
                                                              rintro e w' ⟨rfl, rfl⟩
                                                              exact ⟨rfl, HE.out.symm, HBW.out.trans (HB41.out.mono HNZ.out)⟩
                                                            exact AllReadyH.nil
                                                      exact AllReadyH.nil
                                                    exact AllReadyH.nil
                                              exact AllReadyH.nil
                                            exact AllReadyH.nil
                                          refine AllReadyH.cons rfl (fun K hK => ?_) ?_
                                          · go_simp
                                            refine hK.out _ _ (HS.out _ (HBU.out.alloc (Nat.le_trans HZ.out HBU.out.size) _)) (fun hHeld => ?_)
                                            clear hK K
                                            obtain ⟨G45, hG⟩ : ∃ G, U.heap.size = G := ⟨_, rfl⟩
                                            obtain ⟨U45, hU⟩ : ∃ X, U.alloc (.cells #[.int .i64 x, .int .i64 m.b, .int .i64 y, .int .i64 m.d, .int .i64 m.f, .int .i64 10000] 2) = X := ⟨_, rfl⟩
                                            have HB45 : Hid (Below Z W U45) := Lib.hid (by rw [← hU]; exact HBU.out.alloc (Nat.le_trans HZ.out HBU.out.size) _)
                                            have HR45 : Hid (ReadsInts U45 (some ⟨G45, 0, none⟩) [x, m.b, y, m.d, m.f, 10000]) := Lib.hid (by rw [← hU, ← hG]; exact reads6 _ _ _ _ _ _ _ _)
                                            rw [hU] at hHeld
                                            rw [hU, hG]
                                            clear hU hG
                                            refine wpAnyH_ready (rs := [10]) (by kernel_rfl) (by simp) ?_
                                            refine AllReadyH.cons rfl (fun K hK => ?_) ?_
                                            · go_simp
                                              refine hK.out _ _ (HS.out _ (HB45.out.alloc (Nat.le_trans HZ.out HB45.out.size) _)) (fun hHeld => ?_)
                                              clear hK K
                                              obtain ⟨G46, hG⟩ : ∃ G, U45.heap.size = G := ⟨_, rfl⟩
                                              obtain ⟨U46, hU⟩ : ∃ X, U45.alloc (.cells #[.int .i64 x, .int .i64 m.a, .int .i64 y, .int .i64 m.c, .int .i64 m.e, .int .i64 10000] 2) = X := ⟨_, rfl⟩
                                              have HB46 : Hid (Below Z W U46) := Lib.hid (by rw [← hU]; exact HB45.out.alloc (Nat.le_trans HZ.out HB45.out.size) _)
                                              have HR46 : Hid (ReadsInts U46 (some ⟨G46, 0, none⟩) [x, m.a, y, m.c, m.e, 10000]) := Lib.hid (by rw [← hU, ← hG]; exact reads6 _ _ _ _ _ _ _ _)
                                              have HR46b : Hid (ReadsInts U46 (some ⟨G45, 0, none⟩) [x, m.b, y, m.d, m.f, 10000]) := Lib.hid (by rw [← hU]; exact reads_below HR45.out ((Below.refl _ U45).alloc (Nat.le_refl _) _))
                                              rw [hU] at hHeld
                                              rw [hU, hG]
                                              clear hU hG
                                              refine wpAnyH_ready (rs := [11]) (by kernel_rfl) (by simp) ?_
                                              refine AllReadyH.cons rfl (fun K hK => ?_) ?_
                                              · go_simp
                                                refine (dot6_c G46 6 x m.a y m.c m.e u 0 U46 HR46.out HA1.out.1 HA1.out.2).mono ?_
                                                rintro e U47 ⟨rfl, hb⟩
                                                have HB47 := Lib.hid (HB46.out.trans (hb.mono (Nat.le_trans HZ.out HB46.out.size)))
                                                have HR47b := Lib.hid (reads_below HR46b.out hb)
                                                refine hK.out _ _ (HS.out _ HB47.out) (fun hHeld => ?_)
                                                clear hb hK K
                                                refine wpAnyH_take (i := 12) (v := ?v48) rfl (by kernel_rfl) (by kernel_rfl) (by kernel_rfl) (fun _ _ _ h => h) (Or.inl ⟨by rfl, ?hy48⟩) hHeld ?rest48
                                                case hy48 => (intro w hSw; obtain ⟨s0, s1, s2, s3, s4, s5, s6, s7⟩ := hSw; go_simp; first | done | with_reducible rfl)
                                                case rest48 =>
                                                  try simp only [Act.put, List.setIfInBounds_toArray]
                                                  refine wpAnyH_take (i := 13) (v := ?v49) rfl (by kernel_rfl) (by kernel_rfl) (by kernel_rfl) (fun _ _ _ h => h) (Or.inl ⟨by rfl, ?hy49⟩) hHeld ?rest49
                                                  case hy49 => (intro w hSw; obtain ⟨s0, s1, s2, s3, s4, s5, s6, s7⟩ := hSw; go_simp; first | done | with_reducible rfl)
                                                  case rest49 =>
                                                    try simp only [Act.put]
                                                    refine wpAnyH_ready (rs := [14]) (by kernel_rfl) (by simp) ?_
                                                    refine AllReadyH.cons rfl (fun K hK => ?_) ?_
                                                    · go_simp
                                                      refine (value_ok u U47).mono ?_
                                                      rintro e w' ⟨rfl, rfl⟩
                                                      refine hK.out _ _ (HS.out _ HB47.out) (fun hHeld => ?_)
                                                      clear hK K
                                                      refine wpAnyH_ready (rs := [26]) (by kernel_rfl) (by simp) ?_
                                                      refine AllReadyH.cons rfl (fun K hK => ?_) ?_
                                                      · go_simp
                                                        refine (dot6_c G45 6 x m.b y m.d m.f 0 2 U47 HR47b.out HA2.out.1 HA2.out.2).mono ?_
                                                        rintro e U51 ⟨rfl, hb⟩
                                                        have HB51 := Lib.hid (HB47.out.trans (hb.mono (Nat.le_trans HZ.out HB47.out.size)))
                                                        refine hK.out _ _ (HS.out _ HB51.out) (fun hHeld => ?_)
                                                        clear hb hK K
                                                        refine wpAnyH_take (i := 27) (v := ?v52) rfl (by kernel_rfl) (by kernel_rfl) (by kernel_rfl) (fun _ _ _ h => h) (Or.inl ⟨by rfl, ?hy52⟩) hHeld ?rest52
                                                        case hy52 => (intro w hSw; obtain ⟨s0, s1, s2, s3, s4, s5, s6, s7⟩ := hSw; go_simp; first | done | with_reducible rfl)
                                                        case rest52 =>
                                                          try simp only [Act.put, List.setIfInBounds_toArray]
                                                          refine wpAnyH_take (i := 28) (v := ?v53) rfl (by kernel_rfl) (by kernel_rfl) (by kernel_rfl) (fun _ _ _ h => h) (Or.inl ⟨by rfl, ?hy53⟩) hHeld ?rest53
                                                          case hy53 => (intro w hSw; obtain ⟨s0, s1, s2, s3, s4, s5, s6, s7⟩ := hSw; go_simp; first | done | with_reducible rfl)
                                                          case rest53 =>
                                                            try simp only [Act.put]
                                                            refine wpAnyH_ready (rs := [29]) (by kernel_rfl) (by simp) ?_
                                                            refine AllReadyH.cons rfl (fun K hK => ?_) ?_
                                                            · go_simp
                                                              refine (value_two 0 U51).mono ?_
                                                              rintro e w' ⟨rfl, rfl⟩
                                                              exact ⟨rfl, HE.out.symm, HBW.out.trans (HB51.out.mono HNZ.out)⟩
                                                            exact AllReadyH.nil
                                                      exact AllReadyH.nil
                                                    exact AllReadyH.nil
                                              exact AllReadyH.nil
                                            exact AllReadyH.nil
                                          exact AllReadyH.nil

end Go.Proofs.Ythihmbicalacfaa
