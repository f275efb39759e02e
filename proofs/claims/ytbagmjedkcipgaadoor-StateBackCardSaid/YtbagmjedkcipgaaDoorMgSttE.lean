/-
  state.Same, by the first test that fails (more).
-/
import Derived.Test.YtbagmjedkcipgaaDoorMgSttC
namespace Go.Proofs.YtbagmjedkcipgaaDoor
open Go.RowKit
attribute [-go_sem] run_equalIn_agg
attribute [local go_sem] eqMx eqCo eqTx

set_option maxRecDepth 100000 in
set_option maxHeartbeats 8000000 in
theorem same_n5 (g h : Nat → Int) (f k : ByteArray) (A B : Option Addr) (l m : List Int) (ca cb : Nat) (w : World) (hA : NAt w A l) (hB : NAt w B m) (hl : l.length ≤ 1000000000) (q0 : eqL [g 0, g 1, g 2, g 3, g 4, g 5] [h 0, h 1, h 2, h 3, h 4, h 5] = true) (q1 : g 6 = h 6) (q2 : g 7 = h 7) (q3 : g 8 = h 8) (q4 : g 9 = h 9) (qd : ¬ l = m) :
    Calls Tryd.prog 12 #[.agg (gsC g f (.slice A l.length ca)), .agg (gsC h k (.slice B m.length cb))] w fun e w' => e = .returned (.bool false) ∧ Below w.heap.size w w' := by
  obtain ⟨V, hV⟩ : ∃ V, (w.alloc (.cells (gsC g f (.slice A l.length ca)) 40)).alloc (.cells (gsC h k (.slice B m.length cb)) 40) = V := ⟨_, rfl⟩
  have hBV : Below w.heap.size w V := by rw [← hV]; exact ((Below.refl _ w).alloc (Nat.le_refl _) _).alloc (by simp) _
  have HC := Lib.hid (equal64_any A B ca cb l m V (hA.below hBV) (hB.below hBV) hl)
  have ba : Blk V w.heap.size 40 (gsC g f (.slice A l.length ca)) := by rw [← hV]; exact (Blk.new w _ _).alloc _
  have bb : Blk V (w.heap.size + 1) 40 (gsC h k (.slice B m.length cb)) := by
    rw [← hV]
    have := Blk.new (w.alloc (.cells (gsC g f (.slice A l.length ca)) 40)) 40 (gsC h k (.slice B m.length cb))
    rw [World.size_alloc] at this
    exact this
  have HV := Lib.hid (And.intro hV (And.intro hBV (And.intro ba bb)))
  clear hV hBV ba bb
  clear hA hB hl
  unfold gsC at *
  go_enter Tryd.func12, Tryd.ntmps12
  go_wp2_with fail
  simp only [q1, q2, q3, q4] at HV
  rw [HV.out.1]
  refine HC.out.mono ?_
  rintro e w1 ⟨rfl, hb⟩
  have HB1 := Lib.hid (HV.out.2.1.trans (hb.mono (by have := HV.out.2.2.2.lt; omega)))
  rw [decide_eq_false qd]
  clear hb HV HC
  go_wp2_with fail
  go_ret
  exact ⟨rfl, HB1.out⟩
set_option maxRecDepth 100000 in
set_option maxHeartbeats 8000000 in
theorem same_n6 (g h : Nat → Int) (f k : ByteArray) (A B : Option Addr) (l m : List Int) (ca cb : Nat) (w : World) (hA : NAt w A l) (hB : NAt w B m) (hl : l.length ≤ 1000000000) (q0 : eqL [g 0, g 1, g 2, g 3, g 4, g 5] [h 0, h 1, h 2, h 3, h 4, h 5] = true) (q1 : g 6 = h 6) (q2 : g 7 = h 7) (q3 : g 8 = h 8) (q4 : g 9 = h 9) (qd : l = m) (q5 : ¬ g 10 = h 10) :
    Calls Tryd.prog 12 #[.agg (gsC g f (.slice A l.length ca)), .agg (gsC h k (.slice B m.length cb))] w fun e w' => e = .returned (.bool false) ∧ Below w.heap.size w w' := by
  subst qd
  obtain ⟨V, hV⟩ : ∃ V, (w.alloc (.cells (gsC g f (.slice A l.length ca)) 40)).alloc (.cells (gsC h k (.slice B l.length cb)) 40) = V := ⟨_, rfl⟩
  have hBV : Below w.heap.size w V := by rw [← hV]; exact ((Below.refl _ w).alloc (Nat.le_refl _) _).alloc (by simp) _
  have HC := Lib.hid (equal64_any A B ca cb l l V (hA.below hBV) (hB.below hBV) hl)
  have ba : Blk V w.heap.size 40 (gsC g f (.slice A l.length ca)) := by rw [← hV]; exact (Blk.new w _ _).alloc _
  have bb : Blk V (w.heap.size + 1) 40 (gsC h k (.slice B l.length cb)) := by
    rw [← hV]
    have := Blk.new (w.alloc (.cells (gsC g f (.slice A l.length ca)) 40)) 40 (gsC h k (.slice B l.length cb))
    rw [World.size_alloc] at this
    exact this
  have HV := Lib.hid (And.intro hV (And.intro hBV (And.intro ba bb)))
  clear hV hBV ba bb
  clear hA hB hl
  unfold gsC at *
  go_enter Tryd.func12, Tryd.ntmps12
  go_wp2_with fail
  simp only [q1, q2, q3, q4] at HV
  rw [HV.out.1]
  refine HC.out.mono ?_
  rintro e w1 ⟨rfl, hb⟩
  have HB1 := Lib.hid (HV.out.2.1.trans (hb.mono (by have := HV.out.2.2.2.lt; omega)))
  try simp only [decide_true]
  have b0 := HV.out.2.2.1.below hb HV.out.2.2.1.lt
  have b1 := HV.out.2.2.2.below hb HV.out.2.2.2.lt
  have c11 := b0.cell 11
  have d11 := b1.cell 11
  have c12 := b0.cell 12
  have d12 := b1.cell 12
  have c13 := b0.cell 13
  have d13 := b1.cell 13
  have c14 := b0.cell 14
  have d14 := b1.cell 14
  have c15 := b0.cell 15
  have d15 := b1.cell 15
  have c16 := b0.cell 16
  have d16 := b1.cell 16
  have c17 := b0.cell 17
  have d17 := b1.cell 17
  have c18 := b0.cell 18
  have d18 := b1.cell 18
  have c19 := b0.cell 19
  have d19 := b1.cell 19
  have c20 := b0.cell 20
  have d20 := b1.cell 20
  have c21 := b0.cell 21
  have d21 := b1.cell 21
  have c22 := b0.cell 22
  have d22 := b1.cell 22
  have c23 := b0.cell 23
  have d23 := b1.cell 23
  have c24 := b0.cell 24
  have d24 := b1.cell 24
  have c25 := b0.cell 25
  have d25 := b1.cell 25
  have c26 := b0.cell 26
  have d26 := b1.cell 26
  have c27 := b0.cell 27
  have d27 := b1.cell 27
  have c28 := b0.cell 28
  have d28 := b1.cell 28
  have c29 := b0.cell 29
  have d29 := b1.cell 29
  clear b0 b1
  clear hb HV HC
  go_wp2_with fail
  go_ret
  exact ⟨rfl, HB1.out⟩
set_option maxRecDepth 100000 in
set_option maxHeartbeats 8000000 in
theorem same_n7 (g h : Nat → Int) (f k : ByteArray) (A B : Option Addr) (l m : List Int) (ca cb : Nat) (w : World) (hA : NAt w A l) (hB : NAt w B m) (hl : l.length ≤ 1000000000) (q0 : eqL [g 0, g 1, g 2, g 3, g 4, g 5] [h 0, h 1, h 2, h 3, h 4, h 5] = true) (q1 : g 6 = h 6) (q2 : g 7 = h 7) (q3 : g 8 = h 8) (q4 : g 9 = h 9) (qd : l = m) (q5 : g 10 = h 10) (q6 : eqL [g 11, g 12, g 13, g 14, g 15] [h 11, h 12, h 13, h 14, h 15] = false) :
    Calls Tryd.prog 12 #[.agg (gsC g f (.slice A l.length ca)), .agg (gsC h k (.slice B m.length cb))] w fun e w' => e = .returned (.bool false) ∧ Below w.heap.size w w' := by
  subst qd
  obtain ⟨V, hV⟩ : ∃ V, (w.alloc (.cells (gsC g f (.slice A l.length ca)) 40)).alloc (.cells (gsC h k (.slice B l.length cb)) 40) = V := ⟨_, rfl⟩
  have hBV : Below w.heap.size w V := by rw [← hV]; exact ((Below.refl _ w).alloc (Nat.le_refl _) _).alloc (by simp) _
  have HC := Lib.hid (equal64_any A B ca cb l l V (hA.below hBV) (hB.below hBV) hl)
  have ba : Blk V w.heap.size 40 (gsC g f (.slice A l.length ca)) := by rw [← hV]; exact (Blk.new w _ _).alloc _
  have bb : Blk V (w.heap.size + 1) 40 (gsC h k (.slice B l.length cb)) := by
    rw [← hV]
    have := Blk.new (w.alloc (.cells (gsC g f (.slice A l.length ca)) 40)) 40 (gsC h k (.slice B l.length cb))
    rw [World.size_alloc] at this
    exact this
  have HV := Lib.hid (And.intro hV (And.intro hBV (And.intro ba bb)))
  clear hV hBV ba bb
  clear hA hB hl
  unfold gsC at *
  go_enter Tryd.func12, Tryd.ntmps12
  go_wp2_with fail
  simp only [q1, q2, q3, q4, q5] at HV
  rw [HV.out.1]
  refine HC.out.mono ?_
  rintro e w1 ⟨rfl, hb⟩
  have HB1 := Lib.hid (HV.out.2.1.trans (hb.mono (by have := HV.out.2.2.2.lt; omega)))
  try simp only [decide_true]
  have b0 := HV.out.2.2.1.below hb HV.out.2.2.1.lt
  have b1 := HV.out.2.2.2.below hb HV.out.2.2.2.lt
  have c11 := b0.cell 11
  have d11 := b1.cell 11
  have c12 := b0.cell 12
  have d12 := b1.cell 12
  have c13 := b0.cell 13
  have d13 := b1.cell 13
  have c14 := b0.cell 14
  have d14 := b1.cell 14
  have c15 := b0.cell 15
  have d15 := b1.cell 15
  have c16 := b0.cell 16
  have d16 := b1.cell 16
  have c17 := b0.cell 17
  have d17 := b1.cell 17
  have c18 := b0.cell 18
  have d18 := b1.cell 18
  have c19 := b0.cell 19
  have d19 := b1.cell 19
  have c20 := b0.cell 20
  have d20 := b1.cell 20
  have c21 := b0.cell 21
  have d21 := b1.cell 21
  have c22 := b0.cell 22
  have d22 := b1.cell 22
  have c23 := b0.cell 23
  have d23 := b1.cell 23
  have c24 := b0.cell 24
  have d24 := b1.cell 24
  have c25 := b0.cell 25
  have d25 := b1.cell 25
  have c26 := b0.cell 26
  have d26 := b1.cell 26
  have c27 := b0.cell 27
  have d27 := b1.cell 27
  have c28 := b0.cell 28
  have d28 := b1.cell 28
  have c29 := b0.cell 29
  have d29 := b1.cell 29
  clear b0 b1
  clear hb HV HC
  go_wp2_with fail
  go_ret
  exact ⟨rfl, HB1.out⟩
end Go.Proofs.YtbagmjedkcipgaaDoor
