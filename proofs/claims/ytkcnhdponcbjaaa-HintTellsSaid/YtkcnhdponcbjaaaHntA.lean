/-
  hint's rowOf and hint: a hint as an array of three numbers, and back; valid.
-/
import Derived.Test.YtkcnhdponcbjaaaBlk
import Derived.Test.YtkcnhdponcbjaaaHntMath
import Derived.WalkKit
import Derived.WalkSpells
import Derived.BigQuiet
import Derived.Lib.Hide
import Derived.Deep.RegionWith
import Derived.Deep.DeepCutAuto
import Derived.LoopTactic
import Derived.RegionTactic
import Derived.IntWalk
namespace Go.Proofs.Ytkcnhdponcbjaaa
open Go.RowKit Bt Hnt

set_option maxRecDepth 100000 in
set_option maxHeartbeats 2000000 in
theorem rowOf_any (x y z : Int) (w : World) :
    Calls Try.prog 37 #[.agg #[.int .i64 x, .int .i64 y, .int .i64 z]] w fun e w' => e = .returned (.agg #[.int .i64 x, .int .i64 y, .int .i64 z]) ∧ Below w.heap.size w w' := by
  obtain ⟨N, hN⟩ : ∃ N, w.heap.size = N := ⟨_, rfl⟩
  obtain ⟨V, hV⟩ : ∃ V, (w.alloc (.cells #[.int .i64 x, .int .i64 y, .int .i64 z] 35)).alloc (.cells #[.int .i64 0, .int .i64 0, .int .i64 0] 61) = V := ⟨_, rfl⟩
  have bP : Blk V N 35 #[.int .i64 x, .int .i64 y, .int .i64 z] := by
    rw [← hV, ← hN]
    exact (Blk.new w _ _).alloc _
  have bQ : Blk V (N + 1) 61 #[.int .i64 0, .int .i64 0, .int .i64 0] := by
    rw [← hV]
    have := Blk.new (w.alloc (.cells #[.int .i64 x, .int .i64 y, .int .i64 z] 35)) 61 #[.int .i64 0, .int .i64 0, .int .i64 0]
    rw [World.size_alloc, hN] at this
    exact this
  have HB := Lib.hid (show Below N w V by rw [← hV, ← hN]; exact ((Below.refl _ w).alloc (Nat.le_refl _) _).alloc (by simp) _)
  have p0 := bP.cell 0
  have p1 := bP.cell 1
  have p2 := bP.cell 2
  simp only [List.getElem?_toArray, List.getElem?_cons_zero, List.getElem?_cons_succ] at p0 p1 p2
  have q0 := bQ.frozen 0
  have q1 := bQ.frozen 1
  have q2 := bQ.frozen 2
  have r0 := bQ.cell 0
  have r1 := bQ.cell 1
  have r2 := bQ.cell 2
  simp only [List.getElem?_toArray, List.getElem?_cons_zero, List.getElem?_cons_succ] at r0 r1 r2
  rw [hN]
  go_enter Try.func37, Try.ntmps37
  go_upto_region 1 with fail
  clear hV hN
  go_wp2_with fail
  have bQ2 := ((bQ.set_ 0 (.int .i64 x)).set_ 1 (.int .i64 y)).set_ 2 (.int .i64 z)
  have c0 := bQ2.cell 0
  have c1 := bQ2.cell 1
  have c2 := bQ2.cell 2
  simp at c0 c1 c2
  exact bodyPost_ret (v := .agg #[.int .i64 x, .int .i64 y, .int .i64 z]) (by simp [results, Try.results37, go_sem, c0, c1, c2]) rfl ⟨rfl, ((HB.out.setCell (by simp) _).setCell (by simp) _).setCell (by simp) _⟩

set_option maxRecDepth 100000 in
set_option maxHeartbeats 2000000 in
theorem hint_any (x y z : Int) (w : World) :
    Calls Try.prog 56 #[.agg #[.int .i64 x, .int .i64 y, .int .i64 z]] w fun e w' => e = .returned (.agg #[.int .i64 x, .int .i64 y, .int .i64 z]) ∧ Below w.heap.size w w' := by
  obtain ⟨N, hN⟩ : ∃ N, w.heap.size = N := ⟨_, rfl⟩
  obtain ⟨V, hV⟩ : ∃ V, (w.alloc (.cells #[.int .i64 x, .int .i64 y, .int .i64 z] 61)).alloc (.cells #[.int .i64 0, .int .i64 0, .int .i64 0] 35) = V := ⟨_, rfl⟩
  have bP : Blk V N 61 #[.int .i64 x, .int .i64 y, .int .i64 z] := by
    rw [← hV, ← hN]
    exact (Blk.new w _ _).alloc _
  have bQ : Blk V (N + 1) 35 #[.int .i64 0, .int .i64 0, .int .i64 0] := by
    rw [← hV]
    have := Blk.new (w.alloc (.cells #[.int .i64 x, .int .i64 y, .int .i64 z] 61)) 35 #[.int .i64 0, .int .i64 0, .int .i64 0]
    rw [World.size_alloc, hN] at this
    exact this
  have HB := Lib.hid (show Below N w V by rw [← hV, ← hN]; exact ((Below.refl _ w).alloc (Nat.le_refl _) _).alloc (by simp) _)
  have p0 := bP.cell 0
  have p1 := bP.cell 1
  have p2 := bP.cell 2
  simp only [List.getElem?_toArray, List.getElem?_cons_zero, List.getElem?_cons_succ] at p0 p1 p2
  have q0 := bQ.frozen 0
  have q1 := bQ.frozen 1
  have q2 := bQ.frozen 2
  have r0 := bQ.cell 0
  have r1 := bQ.cell 1
  have r2 := bQ.cell 2
  simp only [List.getElem?_toArray, List.getElem?_cons_zero, List.getElem?_cons_succ] at r0 r1 r2
  rw [hN]
  go_enter Try.func56, Try.ntmps56
  go_upto_region 1 with fail
  clear hV hN
  go_wp2_with fail
  have bQ2 := ((bQ.set_ 0 (.int .i64 x)).set_ 1 (.int .i64 y)).set_ 2 (.int .i64 z)
  have c0 := bQ2.cell 0
  have c1 := bQ2.cell 1
  have c2 := bQ2.cell 2
  simp at c0 c1 c2
  exact bodyPost_ret (v := .agg #[.int .i64 x, .int .i64 y, .int .i64 z]) (by simp [results, Try.results56, go_sem, c0, c1, c2]) rfl ⟨rfl, ((HB.out.setCell (by simp) _).setCell (by simp) _).setCell (by simp) _⟩

theorem ok_no {h : H3} {c : Nat} (hc : c < 3) (hb : clm c h < 0 ∨ mostC c < clm c h) : okH h = false := by
  rw [Bool.eq_false_iff]
  intro e
  have := (okH_iff h).1 e c hc
  omega

set_option maxRecDepth 100000 in
set_option maxHeartbeats 4000000 in
theorem valid_any (x y z : Int) (w : World) :
    Calls Try.prog 18 #[.agg #[.int .i64 x, .int .i64 y, .int .i64 z]] w fun e w' => e = .returned (.bool (okH (x, y, z))) ∧ Below w.heap.size w w' := by
  obtain ⟨N, hN⟩ : ∃ N, w.heap.size = N := ⟨_, rfl⟩
  obtain ⟨V, hV⟩ : ∃ V, w.alloc (.cells #[.int .i64 x, .int .i64 y, .int .i64 z] 35) = V := ⟨_, rfl⟩
  obtain ⟨U, hU⟩ : ∃ U, V.alloc (.cells #[.int .i64 8191, .int .i64 1048576, .int .i64 1048576] 61) = U := ⟨_, rfl⟩
  have hVs : V.heap.size = N + 1 := by rw [← hV, World.size_alloc, hN]
  have bP : Blk U N 35 #[.int .i64 x, .int .i64 y, .int .i64 z] := by
    rw [← hU, ← hV, ← hN]
    exact (Blk.new w _ _).alloc _
  have bQ : Blk U (N + 1) 61 #[.int .i64 8191, .int .i64 1048576, .int .i64 1048576] := by
    rw [← hU, ← hVs]
    exact Blk.new V _ _
  have HB := Lib.hid (show Below N w U by rw [← hU, ← hV, ← hN]; exact ((Below.refl _ w).alloc (Nat.le_refl _) _).alloc (by simp) _)
  have p0 := bP.cell 0
  have p1 := bP.cell 1
  have p2 := bP.cell 2
  simp only [List.getElem?_toArray, List.getElem?_cons_zero, List.getElem?_cons_succ] at p0 p1 p2
  have HQ := Lib.hid bQ
  have HUs := Lib.hid (show U.heap.size = N + 2 by rw [← hU, World.size_alloc, hVs])
  obtain ⟨b, hb⟩ : ∃ b, okH (x, y, z) = b := ⟨_, rfl⟩
  have HOk := Lib.hid hb
  rw [hN, hb]
  have bP0 := Lib.hid bP
  clear hb bP bQ
  go_enter Try.func18, Try.ntmps18
  go_upto_region 2 with fail
  clear hU hV hN p0 p1 p2
  have p0 := bP0.out.cell 0
  have p1 := bP0.out.cell 1
  have p2 := bP0.out.cell 2
  simp only [List.getElem?_toArray, List.getElem?_cons_zero, List.getElem?_cons_succ] at p0 p1 p2
  go_wp2_with fail
  refine (rowOf_any _ _ _ _).mono ?_
  rintro e w1 ⟨rfl, hb⟩
  have HBw := Lib.hid (HB.out.trans (hb.mono (by rw [HUs.out]; omega)))
  have bQ1 := HQ.out.below hb HQ.out.lt
  clear hb p0 p1 p2
  have q0 := bQ1.cell 0
  have q1 := bQ1.cell 1
  have q2 := bQ1.cell 2
  simp only [List.getElem?_toArray, List.getElem?_cons_zero, List.getElem?_cons_succ] at q0 q1 q2
  clear bQ1
  have ix0 : ∀ w : World, (Instr.index 61 (.agg #[.int .i64 x, .int .i64 y, .int .i64 z]) (.int .i64 0)).run Try.prog w = .ok (.int .i64 x) w := fun _ => by kernel_rfl
  have ix1 : ∀ w : World, (Instr.index 61 (.agg #[.int .i64 x, .int .i64 y, .int .i64 z]) (.int .i64 1)).run Try.prog w = .ok (.int .i64 y) w := fun _ => by kernel_rfl
  have ix2 : ∀ w : World, (Instr.index 61 (.agg #[.int .i64 x, .int .i64 y, .int .i64 z]) (.int .i64 2)).run Try.prog w = .ok (.int .i64 z) w := fun _ => by kernel_rfl
  go_wp2_with fail
  go_loopw [9] (fun i wr => ∃ c : Nat, c ≤ 3 ∧ i = .int .i64 (c : Int) ∧ Hid (wr = w1) ∧ Hid (∀ j, j < c → 0 ≤ clm j (x, y, z) ∧ clm j (x, y, z) ≤ mostC j)) (fun i _ => 3 - (intOf i).toNat)
  case atStart => exact ⟨0, by omega, rfl, Lib.hid rfl, Lib.hid (fun j hj => absurd hj (by omega))⟩
  case round =>
    obtain ⟨c, hc, rfl, HW, HG⟩ := hrel
    obtain rfl := HW.out
    by_cases h3 : c < 3
    · have hcs : c = 0 ∨ c = 1 ∨ c = 2 := by omega
      rcases hcs with h | h | h
      · obtain rfl : c = 0 := by omega
        by_cases g1 : x < 0
        · have hb : b = false := HOk.out.symm.trans (ok_no (c := 0) (by omega) (Or.inl g1))
          subst hb
          go_wp2_with fail
          go_ret
          exact ⟨rfl, HBw.out⟩
        · by_cases g2 : (8191 : Int) < x
          · have hb : b = false := HOk.out.symm.trans (ok_no (c := 0) (by omega) (Or.inr g2))
            subst hb
            go_wp2_with fail
            go_ret
            exact ⟨rfl, HBw.out⟩
          · have g3 : 0 ≤ clm 0 (x, y, z) ∧ clm 0 (x, y, z) ≤ mostC 0 := ⟨by show 0 ≤ x; omega, by show x ≤ 8191; omega⟩
            have HG2 := Lib.hid (show ∀ j, j < 0 + 1 → 0 ≤ clm j (x, y, z) ∧ clm j (x, y, z) ≤ mostC j from fun j hj => by
              rcases Nat.lt_succ_iff_lt_or_eq.1 hj with h | rfl
              · exact HG.out j h
              · exact g3)
            clear g3
            go_wp2_with fail
            go_roundw
            case rel => exact ⟨0 + 1, by omega, by go_num, (by first | exact Lib.hid rfl | exact Lib.hid trivial), HG2⟩
            case measure => simp [intOf]
      · obtain rfl : c = 1 := by omega
        by_cases g1 : y < 0
        · have hb : b = false := HOk.out.symm.trans (ok_no (c := 1) (by omega) (Or.inl g1))
          subst hb
          go_wp2_with fail
          go_ret
          exact ⟨rfl, HBw.out⟩
        · by_cases g2 : (1048576 : Int) < y
          · have hb : b = false := HOk.out.symm.trans (ok_no (c := 1) (by omega) (Or.inr g2))
            subst hb
            go_wp2_with fail
            go_ret
            exact ⟨rfl, HBw.out⟩
          · have g3 : 0 ≤ clm 1 (x, y, z) ∧ clm 1 (x, y, z) ≤ mostC 1 := ⟨by show 0 ≤ y; omega, by show y ≤ 1048576; omega⟩
            have HG2 := Lib.hid (show ∀ j, j < 1 + 1 → 0 ≤ clm j (x, y, z) ∧ clm j (x, y, z) ≤ mostC j from fun j hj => by
              rcases Nat.lt_succ_iff_lt_or_eq.1 hj with h | rfl
              · exact HG.out j h
              · exact g3)
            clear g3
            go_wp2_with fail
            go_roundw
            case rel => exact ⟨1 + 1, by omega, by go_num, (by first | exact Lib.hid rfl | exact Lib.hid trivial), HG2⟩
            case measure => simp [intOf]
      · obtain rfl : c = 2 := by omega
        by_cases g1 : z < 0
        · have hb : b = false := HOk.out.symm.trans (ok_no (c := 2) (by omega) (Or.inl g1))
          subst hb
          go_wp2_with fail
          go_ret
          exact ⟨rfl, HBw.out⟩
        · by_cases g2 : (1048576 : Int) < z
          · have hb : b = false := HOk.out.symm.trans (ok_no (c := 2) (by omega) (Or.inr g2))
            subst hb
            go_wp2_with fail
            go_ret
            exact ⟨rfl, HBw.out⟩
          · have g3 : 0 ≤ clm 2 (x, y, z) ∧ clm 2 (x, y, z) ≤ mostC 2 := ⟨by show 0 ≤ z; omega, by show z ≤ 1048576; omega⟩
            have HG2 := Lib.hid (show ∀ j, j < 2 + 1 → 0 ≤ clm j (x, y, z) ∧ clm j (x, y, z) ≤ mostC j from fun j hj => by
              rcases Nat.lt_succ_iff_lt_or_eq.1 hj with h | rfl
              · exact HG.out j h
              · exact g3)
            clear g3
            go_wp2_with fail
            go_roundw
            case rel => exact ⟨2 + 1, by omega, by go_num, (by first | exact Lib.hid rfl | exact Lib.hid trivial), HG2⟩
            case measure => simp [intOf]
    · obtain rfl : c = 3 := by omega
      have hb : b = true := HOk.out.symm.trans ((okH_iff _).2 HG.out)
      subst hb
      go_wp2_with fail
      go_ret
      exact ⟨rfl, HBw.out⟩
end Go.Proofs.Ytkcnhdponcbjaaa
