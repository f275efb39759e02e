/-
  For every a, b and c FixTurns returns true: Mul, Dot and Sum do not depend on the order of their operands, multiplying or dividing by One changes nothing, and Root is the integer square root (no condition on a, b and c; the library's tables hold what their text lays, as the card ties).
-/
import Derived.Test.YtmimeconkmfkfaaDoorFixRow
namespace Go.Proofs.YtmimeconkmfkfaaDoor
open Go.ChangeShapes Go.WideShapes Go.ChangeAt Go.RowKit Fix

theorem mul_turn (a b : Int) : mulN b a = mulN a b ∧ mulE b a = mulE a b := by
  unfold mulN mulE
  rw [Int.mul_comm b a]
  cases inRange a <;> cases inRange b <;> exact ⟨rfl, rfl⟩
theorem dotK_4 (p q r s : Int) : dotK [p, q, r, s] 2 = p * q + r * s := by
  show (0 + p * q) + r * s = _
  omega
theorem dot_turn (a b c : Int) : dotN [a, c, b, a] = dotN [a, b, c, a] ∧ dotE [a, c, b, a] = dotE [a, b, c, a] := by
  have e : dotQ [a, c, b, a] = dotQ [a, b, c, a] := by
    unfold dotQ
    rw [show [a, c, b, a].length / 2 = 2 by simp, show [a, b, c, a].length / 2 = 2 by simp]
    rw [dotK_4, dotK_4, Int.mul_comm b a, Int.mul_comm c a, Int.add_comm]
  have h : [a, c, b, a].all inRange = [a, b, c, a].all inRange := by
    simp only [List.all_cons, List.all_nil]
    cases inRange a <;> cases inRange b <;> cases inRange c <;> rfl
  unfold dotN dotE
  rw [e, h]
  exact ⟨rfl, rfl⟩
theorem sum_turn (a b c : Int) : sumN [c, b, a] = sumN [a, b, c] ∧ sumE [c, b, a] = sumE [a, b, c] := by
  have e : sumL [c, b, a] = sumL [a, b, c] := by
    show 0 + c + b + a = 0 + a + b + c
    omega
  have h : [c, b, a].all inRange = [a, b, c].all inRange := by
    simp only [List.all_cons, List.all_nil]
    cases inRange a <;> cases inRange b <;> cases inRange c <;> rfl
  unfold sumN sumE
  rw [e, h]
  exact ⟨rfl, rfl⟩
theorem mul_out (a b : Int) (h : ¬ inRange a = true) : mulE a b = 2 := by
  unfold mulE
  rw [Bool.eq_false_iff.2 h]
  rfl
theorem mul_one (a : Int) (h : inRange a = true) : mulN a 10000 = a ∧ mulE a 10000 = 0 := by
  have e := near_exact a 10000 (by decide)
  have h1 : inRange 10000 = true := by decide
  unfold mulN mulE
  rw [e, h, h1]
  exact ⟨rfl, rfl⟩
theorem div_one (a : Int) (h : inRange a = true) : divN a 10000 = a ∧ divE a 10000 = 0 := by
  have e : divQ a 10000 = a := by
    unfold divQ
    first | exact near_exact a 10000 (by decide) | (rw [if_neg (by decide)]; exact near_exact a 10000 (by decide)) | (simp; exact near_exact a 10000 (by decide))
  have h1 : inRange 10000 = true := by decide
  unfold divN divE
  rw [e, h, h1]
  exact ⟨rfl, rfl⟩
theorem root_neg (a : Int) (h : inRange a = true) (h0 : a < 0) : rootN a = 0 ∧ rootE a = 1 := by
  unfold rootN rootE
  rw [if_pos h, if_pos h, if_pos h0, if_pos h0]
  exact ⟨rfl, rfl⟩
theorem root_pos (a : Int) (h : inRange a = true) (h0 : 0 ≤ a) : ∃ r : Int, rootN a = r ∧ rootE a = 0 ∧ 0 ≤ r ∧ r < 1073741824 ∧ r * r ≤ a * 10000 ∧ a * 10000 < (r + 1) * (r + 1) := by
  have hr := rootS_spec (a * 10000) (by omega)
  have ha := inRange_yes h
  refine ⟨rootS (a * 10000), ?_, ?_, hr.1, ?_, hr.2.1, hr.2.2⟩
  · unfold rootN; rw [if_pos h, if_neg (by omega)]
  · unfold rootE; rw [if_pos h, if_neg (by omega)]
  · by_cases hh : rootS (a * 10000) < 1073741824
    · exact hh
    · have : (1073741824 : Int) * 1073741824 ≤ rootS (a * 10000) * rootS (a * 10000) := Int.mul_le_mul (by omega) (by omega) (by decide) (by omega)
      have := hr.2.1
      omega

def TurnEnd (w : World) (e : Ending) (w' : World) : Prop := e = .returned (.bool true) ∧ Below w.heap.size w w'

set_option maxRecDepth 100000 in
set_option maxHeartbeats 4000000 in
theorem turns_low (a b c : Int) (w0 : World) (hl : Live w0) (h : a < -1073741824) :
    Calls Tryd.prog 7 #[.int .i64 a, .int .i64 b, .int .i64 c] w0 (TurnEnd w0) := by
  have HL0 := Lib.hid hl
  have HB0 := Lib.hid (Below.refl w0.heap.size w0)
  obtain ⟨p, hp⟩ : ∃ p, mulN a b = p := ⟨_, rfl⟩
  obtain ⟨u, hu⟩ : ∃ u, mulE a b = u := ⟨_, rfl⟩
  obtain ⟨d, hd⟩ : ∃ d, dotN [a, b, c, a] = d := ⟨_, rfl⟩
  obtain ⟨v, hv⟩ : ∃ v, dotE [a, b, c, a] = v := ⟨_, rfl⟩
  obtain ⟨f, hf⟩ : ∃ f, sumN [a, b, c] = f := ⟨_, rfl⟩
  obtain ⟨x, hx⟩ : ∃ x, sumE [a, b, c] = x := ⟨_, rfl⟩
  have HM := Lib.hid (And.intro hp (And.intro hu (And.intro ((mul_turn a b).1.trans hp) ((mul_turn a b).2.trans hu))))
  have HD := Lib.hid (And.intro hd (And.intro hv (And.intro ((dot_turn a b c).1.trans hd) ((dot_turn a b c).2.trans hv))))
  have HS := Lib.hid (And.intro hf (And.intro hx (And.intro ((sum_turn a b c).1.trans hf) ((sum_turn a b c).2.trans hx))))
  have hu2 : u = 2 := by rw [← hu]; exact mul_out a b (by unfold inRange; simp; omega)
  clear hl hp hu hd hv hf hx
  subst hu2
  go_enter Tryd.func7, Tryd.ntmps7
  go_wp2_with fail
  refine (mul_c a b p 2 w0 HM.out.1 HM.out.2.1).mono ?_
  rintro e w1 ⟨rfl, hb⟩
  have HB1 := Lib.hid (HB0.out.trans (hb.mono HB0.out.size))
  have HL1 : Hid (Live w1) := Lib.hid (HL0.out.below hb (Nat.le_refl _))
  clear hb
  go_wp2_with fail
  refine (mul_c b a p 2 w1 HM.out.2.2.1 HM.out.2.2.2).mono ?_
  rintro e w2 ⟨rfl, hb⟩
  have HB2 := Lib.hid (HB1.out.trans (hb.mono HB1.out.size))
  have HL2 : Hid (Live w2) := Lib.hid (HL1.out.below hb (Nat.le_refl _))
  clear hb
  go_wp2_with fail
  refine (dot_c _ 4 [a, b, c, a] d v _ (by simp) (reads_new w2 [a, b, c, a] _) HD.out.1 HD.out.2.1).mono ?_
  rintro e w3 ⟨rfl, hb⟩
  have HB3 := Lib.hid ((HB2.out.alloc HB2.out.size _).trans (hb.mono (Nat.le_trans HB2.out.size (by simp))))
  have HL3 : Hid (Live w3) := Lib.hid ((HL2.out.alloc _).below hb (Nat.le_refl _))
  clear hb
  go_wp2_with fail
  refine (dot_c _ 4 [a, c, b, a] d v _ (by simp) (reads_new w3 [a, c, b, a] _) HD.out.2.2.1 HD.out.2.2.2).mono ?_
  rintro e w4 ⟨rfl, hb⟩
  have HB4 := Lib.hid ((HB3.out.alloc HB3.out.size _).trans (hb.mono (Nat.le_trans HB3.out.size (by simp))))
  have HL4 : Hid (Live w4) := Lib.hid ((HL3.out.alloc _).below hb (Nat.le_refl _))
  clear hb
  go_wp2_with fail
  refine (sum_c _ 3 [a, b, c] f x _ (by simp) (reads_new w4 [a, b, c] _) HS.out.1 HS.out.2.1).mono ?_
  rintro e w5 ⟨rfl, hb⟩
  have HB5 := Lib.hid ((HB4.out.alloc HB4.out.size _).trans (hb.mono (Nat.le_trans HB4.out.size (by simp))))
  have HL5 : Hid (Live w5) := Lib.hid ((HL4.out.alloc _).below hb (Nat.le_refl _))
  clear hb
  go_wp2_with fail
  refine (sum_c _ 3 [c, b, a] f x _ (by simp) (reads_new w5 [c, b, a] _) HS.out.2.2.1 HS.out.2.2.2).mono ?_
  rintro e w6 ⟨rfl, hb⟩
  have HB6 := Lib.hid ((HB5.out.alloc HB5.out.size _).trans (hb.mono (Nat.le_trans HB5.out.size (by simp))))
  have HL6 : Hid (Live w6) := Lib.hid ((HL5.out.alloc _).below hb (Nat.le_refl _))
  clear hb
  go_wp2_with fail
  refine (lives_any w6 HL6.out).mono ?_
  rintro e w7 ⟨rfl, hb⟩
  go_wp2_with fail
  go_ret
  exact ⟨rfl, HB6.out.trans (hb.mono HB6.out.size)⟩

set_option maxRecDepth 100000 in
set_option maxHeartbeats 4000000 in
theorem turns_high (a b c : Int) (w0 : World) (hl : Live w0) (h : 1073741824 < a) :
    Calls Tryd.prog 7 #[.int .i64 a, .int .i64 b, .int .i64 c] w0 (TurnEnd w0) := by
  have HL0 := Lib.hid hl
  have HB0 := Lib.hid (Below.refl w0.heap.size w0)
  obtain ⟨p, hp⟩ : ∃ p, mulN a b = p := ⟨_, rfl⟩
  obtain ⟨u, hu⟩ : ∃ u, mulE a b = u := ⟨_, rfl⟩
  obtain ⟨d, hd⟩ : ∃ d, dotN [a, b, c, a] = d := ⟨_, rfl⟩
  obtain ⟨v, hv⟩ : ∃ v, dotE [a, b, c, a] = v := ⟨_, rfl⟩
  obtain ⟨f, hf⟩ : ∃ f, sumN [a, b, c] = f := ⟨_, rfl⟩
  obtain ⟨x, hx⟩ : ∃ x, sumE [a, b, c] = x := ⟨_, rfl⟩
  have HM := Lib.hid (And.intro hp (And.intro hu (And.intro ((mul_turn a b).1.trans hp) ((mul_turn a b).2.trans hu))))
  have HD := Lib.hid (And.intro hd (And.intro hv (And.intro ((dot_turn a b c).1.trans hd) ((dot_turn a b c).2.trans hv))))
  have HS := Lib.hid (And.intro hf (And.intro hx (And.intro ((sum_turn a b c).1.trans hf) ((sum_turn a b c).2.trans hx))))
  have hu2 : u = 2 := by rw [← hu]; exact mul_out a b (by unfold inRange; simp; omega)
  have h' : ¬ a < -1073741824 := by omega
  clear hl hp hu hd hv hf hx
  subst hu2
  go_enter Tryd.func7, Tryd.ntmps7
  go_wp2_with fail
  refine (mul_c a b p 2 w0 HM.out.1 HM.out.2.1).mono ?_
  rintro e w1 ⟨rfl, hb⟩
  have HB1 := Lib.hid (HB0.out.trans (hb.mono HB0.out.size))
  have HL1 : Hid (Live w1) := Lib.hid (HL0.out.below hb (Nat.le_refl _))
  clear hb
  go_wp2_with fail
  refine (mul_c b a p 2 w1 HM.out.2.2.1 HM.out.2.2.2).mono ?_
  rintro e w2 ⟨rfl, hb⟩
  have HB2 := Lib.hid (HB1.out.trans (hb.mono HB1.out.size))
  have HL2 : Hid (Live w2) := Lib.hid (HL1.out.below hb (Nat.le_refl _))
  clear hb
  go_wp2_with fail
  refine (dot_c _ 4 [a, b, c, a] d v _ (by simp) (reads_new w2 [a, b, c, a] _) HD.out.1 HD.out.2.1).mono ?_
  rintro e w3 ⟨rfl, hb⟩
  have HB3 := Lib.hid ((HB2.out.alloc HB2.out.size _).trans (hb.mono (Nat.le_trans HB2.out.size (by simp))))
  have HL3 : Hid (Live w3) := Lib.hid ((HL2.out.alloc _).below hb (Nat.le_refl _))
  clear hb
  go_wp2_with fail
  refine (dot_c _ 4 [a, c, b, a] d v _ (by simp) (reads_new w3 [a, c, b, a] _) HD.out.2.2.1 HD.out.2.2.2).mono ?_
  rintro e w4 ⟨rfl, hb⟩
  have HB4 := Lib.hid ((HB3.out.alloc HB3.out.size _).trans (hb.mono (Nat.le_trans HB3.out.size (by simp))))
  have HL4 : Hid (Live w4) := Lib.hid ((HL3.out.alloc _).below hb (Nat.le_refl _))
  clear hb
  go_wp2_with fail
  refine (sum_c _ 3 [a, b, c] f x _ (by simp) (reads_new w4 [a, b, c] _) HS.out.1 HS.out.2.1).mono ?_
  rintro e w5 ⟨rfl, hb⟩
  have HB5 := Lib.hid ((HB4.out.alloc HB4.out.size _).trans (hb.mono (Nat.le_trans HB4.out.size (by simp))))
  have HL5 : Hid (Live w5) := Lib.hid ((HL4.out.alloc _).below hb (Nat.le_refl _))
  clear hb
  go_wp2_with fail
  refine (sum_c _ 3 [c, b, a] f x _ (by simp) (reads_new w5 [c, b, a] _) HS.out.2.2.1 HS.out.2.2.2).mono ?_
  rintro e w6 ⟨rfl, hb⟩
  have HB6 := Lib.hid ((HB5.out.alloc HB5.out.size _).trans (hb.mono (Nat.le_trans HB5.out.size (by simp))))
  have HL6 : Hid (Live w6) := Lib.hid ((HL5.out.alloc _).below hb (Nat.le_refl _))
  clear hb
  go_wp2_with fail
  refine (lives_any w6 HL6.out).mono ?_
  rintro e w7 ⟨rfl, hb⟩
  go_wp2_with fail
  go_ret
  exact ⟨rfl, HB6.out.trans (hb.mono HB6.out.size)⟩

set_option maxRecDepth 100000 in
set_option maxHeartbeats 4000000 in
theorem turns_neg (a b c : Int) (w0 : World) (hl : Live w0) (h1 : -1073741824 ≤ a) (h2 : a < 0) :
    Calls Tryd.prog 7 #[.int .i64 a, .int .i64 b, .int .i64 c] w0 (TurnEnd w0) := by
  have HL0 := Lib.hid hl
  have HB0 := Lib.hid (Below.refl w0.heap.size w0)
  obtain ⟨p, hp⟩ : ∃ p, mulN a b = p := ⟨_, rfl⟩
  obtain ⟨u, hu⟩ : ∃ u, mulE a b = u := ⟨_, rfl⟩
  obtain ⟨d, hd⟩ : ∃ d, dotN [a, b, c, a] = d := ⟨_, rfl⟩
  obtain ⟨v, hv⟩ : ∃ v, dotE [a, b, c, a] = v := ⟨_, rfl⟩
  obtain ⟨f, hf⟩ : ∃ f, sumN [a, b, c] = f := ⟨_, rfl⟩
  obtain ⟨x, hx⟩ : ∃ x, sumE [a, b, c] = x := ⟨_, rfl⟩
  have HM := Lib.hid (And.intro hp (And.intro hu (And.intro ((mul_turn a b).1.trans hp) ((mul_turn a b).2.trans hu))))
  have HD := Lib.hid (And.intro hd (And.intro hv (And.intro ((dot_turn a b c).1.trans hd) ((dot_turn a b c).2.trans hv))))
  have HS := Lib.hid (And.intro hf (And.intro hx (And.intro ((sum_turn a b c).1.trans hf) ((sum_turn a b c).2.trans hx))))
  have hin : inRange a = true := by unfold inRange; simp; omega
  have HO := Lib.hid (And.intro (mul_one a hin) (div_one a hin))
  have HR := Lib.hid (root_neg a hin h2)
  clear hl hp hu hd hv hf hx hin
  go_enter Tryd.func7, Tryd.ntmps7
  go_wp2_with fail
  refine (mul_c a b p u w0 HM.out.1 HM.out.2.1).mono ?_
  rintro e w1 ⟨rfl, hb⟩
  have HB1 := Lib.hid (HB0.out.trans (hb.mono HB0.out.size))
  have HL1 : Hid (Live w1) := Lib.hid (HL0.out.below hb (Nat.le_refl _))
  clear hb
  go_wp2_with fail
  refine (mul_c b a p u w1 HM.out.2.2.1 HM.out.2.2.2).mono ?_
  rintro e w2 ⟨rfl, hb⟩
  have HB2 := Lib.hid (HB1.out.trans (hb.mono HB1.out.size))
  have HL2 : Hid (Live w2) := Lib.hid (HL1.out.below hb (Nat.le_refl _))
  clear hb
  go_wp2_with fail
  refine (dot_c _ 4 [a, b, c, a] d v _ (by simp) (reads_new w2 [a, b, c, a] _) HD.out.1 HD.out.2.1).mono ?_
  rintro e w3 ⟨rfl, hb⟩
  have HB3 := Lib.hid ((HB2.out.alloc HB2.out.size _).trans (hb.mono (Nat.le_trans HB2.out.size (by simp))))
  have HL3 : Hid (Live w3) := Lib.hid ((HL2.out.alloc _).below hb (Nat.le_refl _))
  clear hb
  go_wp2_with fail
  refine (dot_c _ 4 [a, c, b, a] d v _ (by simp) (reads_new w3 [a, c, b, a] _) HD.out.2.2.1 HD.out.2.2.2).mono ?_
  rintro e w4 ⟨rfl, hb⟩
  have HB4 := Lib.hid ((HB3.out.alloc HB3.out.size _).trans (hb.mono (Nat.le_trans HB3.out.size (by simp))))
  have HL4 : Hid (Live w4) := Lib.hid ((HL3.out.alloc _).below hb (Nat.le_refl _))
  clear hb
  go_wp2_with fail
  refine (sum_c _ 3 [a, b, c] f x _ (by simp) (reads_new w4 [a, b, c] _) HS.out.1 HS.out.2.1).mono ?_
  rintro e w5 ⟨rfl, hb⟩
  have HB5 := Lib.hid ((HB4.out.alloc HB4.out.size _).trans (hb.mono (Nat.le_trans HB4.out.size (by simp))))
  have HL5 : Hid (Live w5) := Lib.hid ((HL4.out.alloc _).below hb (Nat.le_refl _))
  clear hb
  go_wp2_with fail
  refine (sum_c _ 3 [c, b, a] f x _ (by simp) (reads_new w5 [c, b, a] _) HS.out.2.2.1 HS.out.2.2.2).mono ?_
  rintro e w6 ⟨rfl, hb⟩
  have HB6 := Lib.hid ((HB5.out.alloc HB5.out.size _).trans (hb.mono (Nat.le_trans HB5.out.size (by simp))))
  have HL6 : Hid (Live w6) := Lib.hid ((HL5.out.alloc _).below hb (Nat.le_refl _))
  clear hb
  go_wp2_with fail
  refine (mul_c a 10000 a 0 w6 HO.out.1.1 HO.out.1.2).mono ?_
  rintro e w7 ⟨rfl, hb⟩
  have HB7 := Lib.hid (HB6.out.trans (hb.mono HB6.out.size))
  have HL7 : Hid (Live w7) := Lib.hid (HL6.out.below hb (Nat.le_refl _))
  clear hb
  go_wp2_with fail
  refine (div_c a 10000 a 0 w7 HO.out.2.1 HO.out.2.2).mono ?_
  rintro e w8 ⟨rfl, hb⟩
  have HB8 := Lib.hid (HB7.out.trans (hb.mono HB7.out.size))
  have HL8 : Hid (Live w8) := Lib.hid (HL7.out.below hb (Nat.le_refl _))
  clear hb
  go_wp2_with fail
  refine (root_c a 0 1 w8 HR.out.1 HR.out.2).mono ?_
  rintro e w9 ⟨rfl, hb⟩
  have HB9 := Lib.hid (HB8.out.trans (hb.mono HB8.out.size))
  have HL9 : Hid (Live w9) := Lib.hid (HL8.out.below hb (Nat.le_refl _))
  clear hb
  go_wp2_with fail
  refine (lives_any w9 HL9.out).mono ?_
  rintro e w10 ⟨rfl, hb⟩
  go_wp2_with fail
  go_ret
  exact ⟨rfl, HB9.out.trans (hb.mono HB9.out.size)⟩

set_option maxRecDepth 100000 in
set_option maxHeartbeats 4000000 in
theorem turns_pos (a b c : Int) (w0 : World) (hl : Live w0) (h1 : 0 ≤ a) (h2 : a ≤ 1073741824) :
    Calls Tryd.prog 7 #[.int .i64 a, .int .i64 b, .int .i64 c] w0 (TurnEnd w0) := by
  have HL0 := Lib.hid hl
  have HB0 := Lib.hid (Below.refl w0.heap.size w0)
  obtain ⟨p, hp⟩ : ∃ p, mulN a b = p := ⟨_, rfl⟩
  obtain ⟨u, hu⟩ : ∃ u, mulE a b = u := ⟨_, rfl⟩
  obtain ⟨d, hd⟩ : ∃ d, dotN [a, b, c, a] = d := ⟨_, rfl⟩
  obtain ⟨v, hv⟩ : ∃ v, dotE [a, b, c, a] = v := ⟨_, rfl⟩
  obtain ⟨f, hf⟩ : ∃ f, sumN [a, b, c] = f := ⟨_, rfl⟩
  obtain ⟨x, hx⟩ : ∃ x, sumE [a, b, c] = x := ⟨_, rfl⟩
  have HM := Lib.hid (And.intro hp (And.intro hu (And.intro ((mul_turn a b).1.trans hp) ((mul_turn a b).2.trans hu))))
  have HD := Lib.hid (And.intro hd (And.intro hv (And.intro ((dot_turn a b c).1.trans hd) ((dot_turn a b c).2.trans hv))))
  have HS := Lib.hid (And.intro hf (And.intro hx (And.intro ((sum_turn a b c).1.trans hf) ((sum_turn a b c).2.trans hx))))
  have hin : inRange a = true := by unfold inRange; simp; omega
  have HO := Lib.hid (And.intro (mul_one a hin) (div_one a hin))
  obtain ⟨r, hr1, hr2, hr3, hr4, hr5, hr6⟩ := root_pos a hin h1
  have HR := Lib.hid (And.intro hr1 hr2)
  have b1 : 0 ≤ r * r := Int.mul_nonneg hr3 hr3
  have b2 : (r + 1) * (r + 1) ≤ 1152921504606846976 := Int.mul_le_mul (show r + 1 ≤ 1073741824 by omega) (show r + 1 ≤ 1073741824 by omega) (by omega) (by decide)
  have b3 : r * r ≤ 1152921504606846976 := by omega
  have b4 : 0 ≤ (r + 1) * (r + 1) := by omega
  clear hl hp hu hd hv hf hx hin hr1 hr2
  go_enter Tryd.func7, Tryd.ntmps7
  go_wp2_with fail
  refine (mul_c a b p u w0 HM.out.1 HM.out.2.1).mono ?_
  rintro e w1 ⟨rfl, hb⟩
  have HB1 := Lib.hid (HB0.out.trans (hb.mono HB0.out.size))
  have HL1 : Hid (Live w1) := Lib.hid (HL0.out.below hb (Nat.le_refl _))
  clear hb
  go_wp2_with fail
  refine (mul_c b a p u w1 HM.out.2.2.1 HM.out.2.2.2).mono ?_
  rintro e w2 ⟨rfl, hb⟩
  have HB2 := Lib.hid (HB1.out.trans (hb.mono HB1.out.size))
  have HL2 : Hid (Live w2) := Lib.hid (HL1.out.below hb (Nat.le_refl _))
  clear hb
  go_wp2_with fail
  refine (dot_c _ 4 [a, b, c, a] d v _ (by simp) (reads_new w2 [a, b, c, a] _) HD.out.1 HD.out.2.1).mono ?_
  rintro e w3 ⟨rfl, hb⟩
  have HB3 := Lib.hid ((HB2.out.alloc HB2.out.size _).trans (hb.mono (Nat.le_trans HB2.out.size (by simp))))
  have HL3 : Hid (Live w3) := Lib.hid ((HL2.out.alloc _).below hb (Nat.le_refl _))
  clear hb
  go_wp2_with fail
  refine (dot_c _ 4 [a, c, b, a] d v _ (by simp) (reads_new w3 [a, c, b, a] _) HD.out.2.2.1 HD.out.2.2.2).mono ?_
  rintro e w4 ⟨rfl, hb⟩
  have HB4 := Lib.hid ((HB3.out.alloc HB3.out.size _).trans (hb.mono (Nat.le_trans HB3.out.size (by simp))))
  have HL4 : Hid (Live w4) := Lib.hid ((HL3.out.alloc _).below hb (Nat.le_refl _))
  clear hb
  go_wp2_with fail
  refine (sum_c _ 3 [a, b, c] f x _ (by simp) (reads_new w4 [a, b, c] _) HS.out.1 HS.out.2.1).mono ?_
  rintro e w5 ⟨rfl, hb⟩
  have HB5 := Lib.hid ((HB4.out.alloc HB4.out.size _).trans (hb.mono (Nat.le_trans HB4.out.size (by simp))))
  have HL5 : Hid (Live w5) := Lib.hid ((HL4.out.alloc _).below hb (Nat.le_refl _))
  clear hb
  go_wp2_with fail
  refine (sum_c _ 3 [c, b, a] f x _ (by simp) (reads_new w5 [c, b, a] _) HS.out.2.2.1 HS.out.2.2.2).mono ?_
  rintro e w6 ⟨rfl, hb⟩
  have HB6 := Lib.hid ((HB5.out.alloc HB5.out.size _).trans (hb.mono (Nat.le_trans HB5.out.size (by simp))))
  have HL6 : Hid (Live w6) := Lib.hid ((HL5.out.alloc _).below hb (Nat.le_refl _))
  clear hb
  go_wp2_with fail
  refine (mul_c a 10000 a 0 w6 HO.out.1.1 HO.out.1.2).mono ?_
  rintro e w7 ⟨rfl, hb⟩
  have HB7 := Lib.hid (HB6.out.trans (hb.mono HB6.out.size))
  have HL7 : Hid (Live w7) := Lib.hid (HL6.out.below hb (Nat.le_refl _))
  clear hb
  go_wp2_with fail
  refine (div_c a 10000 a 0 w7 HO.out.2.1 HO.out.2.2).mono ?_
  rintro e w8 ⟨rfl, hb⟩
  have HB8 := Lib.hid (HB7.out.trans (hb.mono HB7.out.size))
  have HL8 : Hid (Live w8) := Lib.hid (HL7.out.below hb (Nat.le_refl _))
  clear hb
  go_wp2_with fail
  refine (root_c a r 0 w8 HR.out.1 HR.out.2).mono ?_
  rintro e w9 ⟨rfl, hb⟩
  have HB9 := Lib.hid (HB8.out.trans (hb.mono HB8.out.size))
  have HL9 : Hid (Live w9) := Lib.hid (HL8.out.below hb (Nat.le_refl _))
  clear hb
  go_wp2_with fail
  refine (lives_any w9 HL9.out).mono ?_
  rintro e w10 ⟨rfl, hb⟩
  go_wp2_with fail
  go_ret
  exact ⟨rfl, HB9.out.trans (hb.mono HB9.out.size)⟩

theorem turnsLaw (a b c : Int) (w : World) (hl : Live w) :
    Calls Tryd.prog 7 #[.int .i64 a, .int .i64 b, .int .i64 c] w fun e w' => e = .returned (.bool true) ∧ Below w.heap.size w w' := by
  by_cases h1 : a < -1073741824
  · exact turns_low a b c w hl h1
  · by_cases h2 : 1073741824 < a
    · exact turns_high a b c w hl h2
    · by_cases h3 : a < 0
      · exact turns_neg a b c w hl (by omega) h3
      · exact turns_pos a b c w hl (by omega) (by omega)

/-! ### The row, and its card. -/
theorem fixTurns_contract (H : Type) (enc : TypeId × Value → H) (W : World) (base : Nat) (args : Array Value) (ds gs : List (DataW H)) (before : List MemPlace)
    (hval : ∀ (j : Nat) t v, Tryd.f7.params[j]? = some t → args[j]? = some v → Value.okWide Tryd.prog W .any base t v)
    (hW : DataW.Whole enc Tryd.prog Tryd.f7.params.toList Rows.fixTurnsSpec.vars false W args.toList ds gs before) (hL : laidMetH Tryd.prog Rows.fixTurnsRow.laid W) (hsh : W.ShapedOpen Tryd.prog) :
    Calls Tryd.prog 7 args W fun e W' => ∃ v, e = .returned v ∧ Rows.fixTurnsSpec.post enc Tryd.prog Tryd.f7 false true false false W args v W' := by
  have hW' := hW
  obtain ⟨p, q, hA0, hV, rfl, hfz, hnd⟩ := hW
  have hA : DataW.TrodAll enc Tryd.prog W 0 (fun _ => true) true Tryd.f7.params.toList args.toList ds p := hA0
  rw [Tryd.params7] at hA hval
  obtain ⟨v0, vs0, d0, ds0, p0, q0, hargs, rfl, rfl, h0, r0⟩ := trodAll_cons hA
  obtain ⟨v1, vs1, d1, ds1, p1, q1, rfl, rfl, rfl, h1, r1⟩ := trodAll_cons r0
  obtain ⟨v2, vs2, d2, ds2, p2, q2, rfl, rfl, rfl, h2, r2⟩ := trodAll_cons r1
  obtain ⟨rfl, rfl, rfl⟩ := trodAll_nil r2
  obtain rfl : args = #[v0, v1, v2] := by cases args; simp_all
  obtain ⟨rfl, rfl⟩ := trodVars_none hV
  obtain ⟨a0, rfl, rfl, rfl, w0⟩ := open_int Tryd.underlying2 (hval 0 2 v0 rfl rfl) h0
  obtain ⟨a1, rfl, rfl, rfl, w1⟩ := open_int Tryd.underlying2 (hval 1 2 v1 rfl rfl) h1
  obtain ⟨a2, rfl, rfl, rfl, w2⟩ := open_int Tryd.underlying2 (hval 2 2 v2 rfl rfl) h2
  clear hA0
  simp only [List.append_nil] at hW'
  refine (turnsLaw a0 a1 a2 W (live_of hL hsh)).mono fun e W' ⟨he, hb⟩ => ?_
  subst he
  exact ⟨_, rfl, post_new hW' (fun _ _ _ => trodAll_cons_mk (shut_bool Tryd.underlying4 _) trodAll_mk0) (fun _ => (trodAll_cons_mk (shut_int Tryd.underlying2 w0) (trodAll_cons_mk (shut_int Tryd.underlying2 w1) (trodAll_cons_mk (shut_int Tryd.underlying2 w2) trodAll_mk0)))) (fun _ => rfl) hb (ok_one (by kernel_rfl) rfl (okWide_bool_mk Tryd.underlying4 _))⟩

theorem fixTurns_reads (os : Os) {H : Type} (enc : TypeId × Value → H) : ∃ places, DataW.whole enc Tryd.prog ((laidWorld os).forCall (fun _ _ => 0) ⟨#[], #[.int .i64 0, .int .i64 0, .int .i64 0], []⟩).memory Tryd.f7.params.toList Rows.fixTurnsSpec.vars false #[(.int .i64 0 : Value), .int .i64 0, .int .i64 0].toList 8 = some ([.lit (.int .i64 0), .lit (.int .i64 0), .lit (.int .i64 0)], [], places) :=
  ⟨[], by kernel_rfl⟩

set_option maxRecDepth 100000 in
theorem fixTurns_lifted (os : Os) (started : os.Started) (H : Type) (enc : TypeId × Value → H) (F : Stop.Interp) :
    ReturnsInHanded {} Tryd.checked os 7 .any ((OpenSpec.ofChange Rows.fixTurnsSpec).preRow enc Tryd.prog Tryd.f7 Rows.fixTurnsRow.domain false Rows.fixTurnsRow.laid) (((OpenSpec.ofChange Rows.fixTurnsSpec).at F).post enc Tryd.prog Tryd.f7 false true false false) := by
  obtain ⟨places, hx⟩ := fixTurns_reads os enc
  refine returnsInHanded_of_row (C := Tryd.checked) (s := OpenSpec.ofChange Rows.fixTurnsSpec) own started (by kernel_rfl) Tryd.func7
    (witness_row_at (enc := enc) (C := Tryd.checked) false (laidWorld os) #[.int .i64 0, .int .i64 0, .int .i64 0] (World.laidAll_os _ _ _) (by kernel_rfl) (by kernel_rfl) (by kernel_rfl)
      (OpenSpec.preRow_of_cond 8 hx (by kernel_rfl) (fun k hk => by cases hk) (by kernel_rfl) (laid_met os _))) ?_
  intro W base args ds gs before hval hW _ _ _ hL hsh _
  exact fixTurns_contract H enc W base args ds gs before hval hW hL hsh

theorem fixTurns_said : Rows.FixTurnsSaid :=
  OpenClaim.holds_of_cond 7 Tryd.f7 rfl rfl rfl rfl rfl rfl rfl ⟨rfl, rfl, rfl, rfl, rfl⟩ rfl rfl rfl rfl rfl (by kernel_rfl) Tryd.func7 (by kernel_rfl)
    (of_decide_eq_true (by kernel_rfl)) (by unfold Func.isWrapper; first | (rw [if_pos (by decide +kernel)]; kernel_rfl) | (rw [if_neg (by decide +kernel)]; exact ⟨rfl, rfl⟩))
    (fun os started H enc _ F => by rw [OpenClaim.pre_eq_preRow]; exact fixTurns_lifted os started H enc F)

/-- No parameter wants a stand-in; the program's own looks are off. -/
theorem fixTurns_plain (f : FuncId) (fn : Func) (hf : Tryd.pinned.checked.prog.funcNamed "foliant/foliantlaw02.FixTurns" = some f) (hfn : Tryd.pinned.checked.prog.funcs[f]? = some fn) :
    true = Tryd.pinned.checked.prog.looks [] ∧ ∀ (j : Nat) t, fn.params[j]? = some t → Tryd.pinned.checked.prog.wantsStandIn t = false := by
  obtain rfl : f = 7 := Option.some.inj ((show Tryd.prog.funcNamed "foliant/foliantlaw02.FixTurns" = some 7 by kernel_rfl).symm.trans hf) |>.symm
  obtain rfl : fn = Tryd.f7 := (Option.some.inj (Tryd.func7.symm.trans hfn)).symm
  refine ⟨by kernel_rfl, fun j t ht => ?_⟩
  rw [Tryd.params7] at ht
  have hm := Array.mem_of_getElem? ht
  simp only [List.mem_toArray, List.mem_cons, List.not_mem_nil, or_false] at hm
  rcases hm with rfl | rfl | rfl
  · exact (show Tryd.prog.wantsStandIn 2 = false by kernel_rfl)
  · exact (show Tryd.prog.wantsStandIn 2 = false by kernel_rfl)
  · exact (show Tryd.prog.wantsStandIn 2 = false by kernel_rfl)

theorem fixTurns_holds : Rows.FixTurnsCardSaid :=
  Claim7.holds_tied_plain_at .later [] _ _ _ _ fixTurns_said (fun _ h => by cases h) (by kernel_rfl) (fun _ h => by cases h) fixTurns_row_tie rfl ⟨rfl, rfl⟩ (by kernel_rfl) rfl fixTurns_plain (by kernel_rfl)
end Go.Proofs.YtmimeconkmfkfaaDoor
