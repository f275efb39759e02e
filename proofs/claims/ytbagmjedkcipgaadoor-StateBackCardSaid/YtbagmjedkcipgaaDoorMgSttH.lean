/-
  The document's Same.
-/
import Derived.Test.YtbagmjedkcipgaaDoorMgSttC
namespace Go.Proofs.YtbagmjedkcipgaaDoor
open Go.RowKit
attribute [-go_sem] run_equalIn_agg
attribute [local go_sem] eqMx eqCo eqTx

set_option maxRecDepth 100000 in
set_option maxHeartbeats 16000000 in
theorem refSame_any (g h : Nat → Int) (f k : ByteArray) (A B : Option Addr) (l m : List Int) (ca cb : Nat) (w : World) (hA : NAt w A l) (hB : NAt w B m) (hl : l.length ≤ 1000000000) :
    Calls Tryd.prog 13 #[.agg (gsC g f (.slice A l.length ca)), .agg (gsC h k (.slice B m.length cb))] w fun e w' => e = .returned (.bool (sameG g h f k l m)) ∧ Below w.heap.size w w' := by
  obtain ⟨z, hz⟩ : ∃ z, sameG g h f k l m = z := ⟨_, rfl⟩
  have HZ := Lib.hid hz
  rw [hz]
  obtain ⟨p, hp⟩ : ∃ p, l.length = p := ⟨_, rfl⟩
  obtain ⟨q, hq⟩ : ∃ q, m.length = q := ⟨_, rfl⟩
  have HP := Lib.hid hp
  have HQ := Lib.hid hq
  obtain ⟨V, hV⟩ : ∃ V, (w.alloc (.cells (gsC g f (.slice A p ca)) 40)).alloc (.cells (gsC h k (.slice B q cb)) 40) = V := ⟨_, rfl⟩
  have hBV : Below w.heap.size w V := by rw [← hV]; exact ((Below.refl _ w).alloc (Nat.le_refl _) _).alloc (by simp) _
  have ba : Blk V w.heap.size 40 (gsC g f (.slice A p ca)) := by rw [← hV]; exact (Blk.new w _ _).alloc _
  have bb : Blk V (w.heap.size + 1) 40 (gsC h k (.slice B q cb)) := by
    rw [← hV]
    have := Blk.new (w.alloc (.cells (gsC g f (.slice A p ca)) 40)) 40 (gsC h k (.slice B q cb))
    rw [World.size_alloc] at this
    exact this
  rw [hp, hq]
  by_cases hpq : p = q
  · have hpI : (p : Int) ≤ 1000000000 := by omega
    obtain ⟨hV1, hV2⟩ : V.heap.size = w.heap.size + 2 ∧ V = V := by constructor; rw [← hV]; simp; rfl
    have HA := Lib.hid hA
    have HB := Lib.hid hB
    have HV := Lib.hid (And.intro hV (And.intro hBV (And.intro ba (And.intro bb hV1))))
    clear hA hB hl hp hq hz hV hBV ba bb hV1 hV2
    subst hpq
    unfold gsC at *
    go_enter Tryd.func13, Tryd.ntmps13
    go_wp2_with fail
    rw [HV.out.1]
    go_loopw [5] (fun iv wr => ∃ i : Nat, i ≤ p ∧ iv = .int .i64 (i : Int) ∧ Hid (Below w.heap.size w wr ∧ Below (w.heap.size + 2) V wr ∧ l.take i = m.take i)) (fun iv _ => p - (intOf iv).toNat)
    case atStart => exact ⟨0, by omega, rfl, Lib.hid ⟨HV.out.2.1, Below.refl _ _, rfl⟩⟩
    case round =>
      obtain ⟨i, hi, rfl, HI⟩ := hrel
      have ba := HV.out.2.2.1.below HI.out.2.1 (by omega)
      have bb := HV.out.2.2.2.1.below HI.out.2.1 (by omega)
      by_cases hlt : i < p
      · have hkl : i < l.length := by rw [HP.out]; exact hlt
        have hkm : i < m.length := by rw [HQ.out]; exact hlt
        have hik : (i : Int) < (p : Int) := by omega
        have hik0 : (0 : Int) ≤ (i : Int) := by omega
        obtain ⟨b1, o1, rfl, _, e0⟩ := (HA.out.below HI.out.1) i hkl
        obtain ⟨b2, o2, rfl, _, e1⟩ := (HB.out.below HI.out.1) i hkm
        have c10 := ba.cell 10
        have d10 := bb.cell 10
        by_cases hx : l[i] = m[i]
        · have HE2 := Lib.hid (take_eq_snoc hkl hkm HI.out.2.2 hx)
          rw [hx] at e0
          obtain ⟨x, hxx⟩ : ∃ x, m[i] = x := ⟨_, rfl⟩
          rw [hxx] at e0 e1
          clear hx hxx ba bb
          go_wp2_with fail
          go_quiet (fail)
          go_wp2
          go_roundw
          case rel => exact ⟨i + 1, by omega, by go_num, Lib.hid ⟨below_drewN HI.out.1 _, below_drewN HI.out.2.1 _, HE2.out⟩⟩
          case measure => simp [intOf]; omega
        · have HF := Lib.hid (show z = false by
            rw [← HZ.out]
            have : ¬ l = m := fun e => hx (by simp only [e])
            simp [sameG, this])
          obtain ⟨x, hxx⟩ : ∃ x, l[i] = x := ⟨_, rfl⟩
          obtain ⟨y, hyy⟩ : ∃ y, m[i] = y := ⟨_, rfl⟩
          rw [hxx] at e0 hx
          rw [hyy] at e1 hx
          clear hxx hyy ba bb
          go_wp2_with fail
          go_quiet (fail)
          go_wp2
          go_ret
          exact ⟨by rw [HF.out] <;> rfl, below_drewN HI.out.1 _⟩
      · obtain rfl : i = p := by omega
        have HE := Lib.hid (show l = m by
          have h := HI.out.2.2
          rw [show l.take i = l by rw [← HP.out, List.take_length], show m.take i = m by rw [← HQ.out, List.take_length]] at h
          exact h)
        have HW := Lib.hid HI.out.1
        have c0 := ba.cell 0
        have d0 := bb.cell 0
        have c1 := ba.cell 1
        have d1 := bb.cell 1
        have c2 := ba.cell 2
        have d2 := bb.cell 2
        have c3 := ba.cell 3
        have d3 := bb.cell 3
        have c4 := ba.cell 4
        have d4 := bb.cell 4
        have c5 := ba.cell 5
        have d5 := bb.cell 5
        have c6 := ba.cell 6
        have d6 := bb.cell 6
        have c7 := ba.cell 7
        have d7 := bb.cell 7
        have c8 := ba.cell 8
        have d8 := bb.cell 8
        have c9 := ba.cell 9
        have d9 := bb.cell 9
        have c10 := ba.cell 10
        have d10 := bb.cell 10
        have c11 := ba.cell 11
        have d11 := bb.cell 11
        have c12 := ba.cell 12
        have d12 := bb.cell 12
        have c13 := ba.cell 13
        have d13 := bb.cell 13
        have c14 := ba.cell 14
        have d14 := bb.cell 14
        have c15 := ba.cell 15
        have d15 := bb.cell 15
        have c16 := ba.cell 16
        have d16 := bb.cell 16
        have c17 := ba.cell 17
        have d17 := bb.cell 17
        have c18 := ba.cell 18
        have d18 := bb.cell 18
        have c19 := ba.cell 19
        have d19 := bb.cell 19
        have c20 := ba.cell 20
        have d20 := bb.cell 20
        have c21 := ba.cell 21
        have d21 := bb.cell 21
        have c22 := ba.cell 22
        have d22 := bb.cell 22
        have c23 := ba.cell 23
        have d23 := bb.cell 23
        have c24 := ba.cell 24
        have d24 := bb.cell 24
        have c25 := ba.cell 25
        have d25 := bb.cell 25
        have c26 := ba.cell 26
        have d26 := bb.cell 26
        have c27 := ba.cell 27
        have d27 := bb.cell 27
        have c28 := ba.cell 28
        have d28 := bb.cell 28
        have c29 := ba.cell 29
        have d29 := bb.cell 29
        clear ba bb HI HA HB HV
        by_cases q0 : eqL [g 0, g 1, g 2, g 3, g 4, g 5] [h 0, h 1, h 2, h 3, h 4, h 5] = true
        case neg =>
          replace q0 := Bool.eq_false_iff.2 q0
          have HF := Lib.hid (show z = false by rw [← HZ.out]; simp [sameG, q0, HE.out])
          go_wp2_with fail
          go_ret
          exact ⟨by rw [HF.out] <;> rfl, HW.out⟩
        by_cases q1 : g 6 = h 6
        case neg =>
          have HF := Lib.hid (show z = false by rw [← HZ.out]; simp [sameG, q0, q1, HE.out])
          go_wp2_with fail
          go_ret
          exact ⟨by rw [HF.out] <;> rfl, HW.out⟩
        by_cases q2 : g 7 = h 7
        case neg =>
          have HF := Lib.hid (show z = false by rw [← HZ.out]; simp [sameG, q0, q1, q2, HE.out])
          go_wp2_with fail
          go_ret
          exact ⟨by rw [HF.out] <;> rfl, HW.out⟩
        by_cases q3 : g 8 = h 8
        case neg =>
          have HF := Lib.hid (show z = false by rw [← HZ.out]; simp [sameG, q0, q1, q2, q3, HE.out])
          go_wp2_with fail
          go_ret
          exact ⟨by rw [HF.out] <;> rfl, HW.out⟩
        by_cases q4 : g 9 = h 9
        case neg =>
          have HF := Lib.hid (show z = false by rw [← HZ.out]; simp [sameG, q0, q1, q2, q3, q4, HE.out])
          go_wp2_with fail
          go_ret
          exact ⟨by rw [HF.out] <;> rfl, HW.out⟩
        by_cases q5 : g 10 = h 10
        case neg =>
          have HF := Lib.hid (show z = false by rw [← HZ.out]; simp [sameG, q0, q1, q2, q3, q4, q5, HE.out])
          go_wp2_with fail
          go_ret
          exact ⟨by rw [HF.out] <;> rfl, HW.out⟩
        by_cases q6 : eqL [g 11, g 12, g 13, g 14, g 15] [h 11, h 12, h 13, h 14, h 15] = true
        case neg =>
          replace q6 := Bool.eq_false_iff.2 q6
          have HF := Lib.hid (show z = false by rw [← HZ.out]; simp [sameG, q0, q1, q2, q3, q4, q5, q6, HE.out])
          go_wp2_with fail
          go_ret
          exact ⟨by rw [HF.out] <;> rfl, HW.out⟩
        by_cases q7 : eqL [g 16, g 17, g 18, g 19, g 20] [h 16, h 17, h 18, h 19, h 20] = true
        case neg =>
          replace q7 := Bool.eq_false_iff.2 q7
          have HF := Lib.hid (show z = false by rw [← HZ.out]; simp [sameG, q0, q1, q2, q3, q4, q5, q6, q7, HE.out])
          go_wp2_with fail
          go_ret
          exact ⟨by rw [HF.out] <;> rfl, HW.out⟩
        by_cases q8 : eqX [g 21, g 22, g 23, g 24, g 25, g 26, g 27] f [h 21, h 22, h 23, h 24, h 25, h 26, h 27] k = true
        case neg =>
          replace q8 := Bool.eq_false_iff.2 q8
          have HF := Lib.hid (show z = false by rw [← HZ.out]; simp [sameG, q0, q1, q2, q3, q4, q5, q6, q7, q8, HE.out])
          go_wp2_with fail
          go_ret
          exact ⟨by rw [HF.out] <;> rfl, HW.out⟩
        have HF := Lib.hid (show z = true by rw [← HZ.out]; simp [sameG, q0, q1, q2, q3, q4, q5, q6, q7, q8, HE.out])
        go_wp2_with fail
        go_ret
        exact ⟨by rw [HF.out] <;> rfl, HW.out⟩
  · have hpqI : ¬ (p : Int) = (q : Int) := by omega
    have HF := Lib.hid (show z = false by
      rw [← HZ.out]
      have : ¬ l = m := fun e => hpq (by rw [← HP.out, ← HQ.out, e])
      simp [sameG, this])
    clear hA hB hp hq hz hl hpq hV hBV ba bb
    unfold gsC at *
    go_enter Tryd.func13, Tryd.ntmps13
    go_wp2_with fail
    go_ret
    exact ⟨by rw [HF.out] <;> rfl, ((Below.refl _ w).alloc (Nat.le_refl _) _).alloc (by simp) _⟩
end Go.Proofs.YtbagmjedkcipgaaDoor
