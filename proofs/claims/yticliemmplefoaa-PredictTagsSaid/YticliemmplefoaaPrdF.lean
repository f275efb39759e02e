/-
  predict's and the document's Check and Row; tags.
-/
import Derived.Test.YticliemmplefoaaPrdE
namespace Go.Proofs.Yticliemmplefoaa
open Go.RowKit Oct Prd

def knownB (pr : Int) : Bool := decide (pr = 1) || decide (pr = 2) || (decide (10 ≤ pr) && decide (pr ≤ 15))
/-- Are these the parameters of rows? -/
def okP (pr co cl : Int) : Bool := knownB pr && decide (1 ≤ co) && decide (1 ≤ cl) && decide (co * cl ≤ 8192)
def chkE (pr co cl : Int) : Int := if okP pr co cl = true then 0 else 1
def parmsV (pr co cl : Int) : Value := .agg #[.int .i64 pr, .int .i64 co, .int .i64 cl]
/-- A number of Go's int. -/
def I64 (x : Int) : Prop := -9223372036854775808 ≤ x ∧ x ≤ 9223372036854775807
theorem chk_no {pr co cl : Int} (h : okP pr co cl = false) : chkE pr co cl = 1 := by unfold chkE; rw [h]; rfl
theorem chk_yes {pr co cl : Int} (h : okP pr co cl = true) : chkE pr co cl = 0 := by unfold chkE; rw [h]; rfl
theorem okP_iff {pr co cl : Int} : okP pr co cl = true ↔ knownB pr = true ∧ 1 ≤ co ∧ 1 ≤ cl ∧ co * cl ≤ 8192 := by
  unfold okP
  simp only [Bool.and_eq_true, decide_eq_true_eq, and_assoc]
theorem okP_not {pr co cl : Int} (h : ¬ (knownB pr = true ∧ 1 ≤ co ∧ 1 ≤ cl ∧ co * cl ≤ 8192)) : okP pr co cl = false := by
  cases e : okP pr co cl with
  | false => rfl
  | true => exact absurd (okP_iff.1 e) h
theorem quo_iff {co cl : Int} (h : 1 ≤ co) : (8192 : Int).tdiv co < cl ↔ ¬ co * cl ≤ 8192 := by
  rw [Int.tdiv_eq_ediv_of_nonneg (by omega), Int.ediv_lt_iff_lt_mul (by omega), Int.mul_comm]
  omega
theorem parms_blk (w : World) (pr co cl : Int) : Blk (w.alloc (.cells #[.int .i64 pr, .int .i64 co, .int .i64 cl] 23)) w.heap.size 23 #[.int .i64 pr, .int .i64 co, .int .i64 cl] := Blk.new _ _ _

set_option maxRecDepth 100000 in
set_option maxHeartbeats 4000000 in
theorem checkP_any (pr co cl : Int) (w : World) (_h0 : I64 pr) (_h1 : I64 co) (_h2 : I64 cl) :
    Calls Try.prog 11 #[parmsV pr co cl] w fun e w' => e = .returned (.int .i64 (chkE pr co cl)) ∧ Below w.heap.size w w' := by
  have hB := parms_blk w pr co cl
  have HB1 := Lib.hid ((Below.refl w.heap.size w).alloc (Nat.le_refl _) (.cells #[.int .i64 pr, .int .i64 co, .int .i64 cl] 23))
  obtain ⟨W, hW⟩ : ∃ W, w.alloc (.cells #[.int .i64 pr, .int .i64 co, .int .i64 cl] 23) = W := ⟨_, rfl⟩
  obtain ⟨N, hN⟩ : ∃ N, w.heap.size = N := ⟨_, rfl⟩
  have HN := Lib.hid hN
  rw [hN, hW] at hB HB1
  rw [hN]
  have c0 := hB.cell 0
  have c1 := hB.cell 1
  have c2 := hB.cell 2
  simp only [List.getElem?_toArray, List.getElem?_cons_zero, List.getElem?_cons_succ] at c0 c1 c2
  obtain ⟨x, hx⟩ : ∃ x, chkE pr co cl = x := ⟨_, rfl⟩
  rw [hx]
  have HX := Lib.hid hx
  unfold parmsV
  clear hx hB
  go_enter Try.func11, Try.ntmps11
  go_upto_region 1 with fail
  go_cut [3] (fun b wx => b = .bool (knownB pr) ∧ ∃ m, wx = W.drewN m)
  case first =>
    as_aux_lemma =>
      by_cases e1 : pr = 1
      · have b1 : (pr == 1) = true := by rw [e1]; rfl
        have G : Hid (knownB pr = true) := Lib.hid (by unfold knownB; rw [decide_eq_true e1]; rfl)
        clear e1
        go_wp2_with fail
        go_meet
        rw [G.out]
        exact ⟨rfl, 0, rfl⟩
      · have b1 : (pr == 1) = false := beq_eq_false_iff_ne.2 e1
        by_cases e2 : pr = 2
        · have b2 : (pr == 2) = true := by rw [e2]; rfl
          have G : Hid (knownB pr = true) := Lib.hid (by unfold knownB; rw [decide_eq_true e2]; simp)
          clear e1 e2
          go_wp2_with fail
          go_meet
          rw [G.out]
          exact ⟨rfl, 0, rfl⟩
        · have b2 : (pr == 2) = false := beq_eq_false_iff_ne.2 e2
          by_cases e3 : 10 ≤ pr
          · by_cases e4 : pr ≤ 15
            · have G : Hid (knownB pr = true) := Lib.hid (by unfold knownB; rw [decide_eq_true e3, decide_eq_true e4]; simp)
              clear e1 e2
              go_wp2_with fail
              go_meet
              rw [G.out]
              exact ⟨rfl, 0, rfl⟩
            · have b4 : decide (pr ≤ 15) = false := decide_eq_false e4
              have G : Hid (knownB pr = false) := Lib.hid (by unfold knownB; rw [decide_eq_false e1, decide_eq_false e2, decide_eq_false e4]; simp)
              clear e1 e2 e4
              go_wp2_with fail
              go_meet
              rw [G.out]
              exact ⟨rfl, 0, rfl⟩
          · have b3 : decide (10 ≤ pr) = false := decide_eq_false e3
            have G : Hid (knownB pr = false) := Lib.hid (by unfold knownB; rw [decide_eq_false e1, decide_eq_false e2, decide_eq_false e3]; simp)
            clear e1 e2 e3
            go_wp2_with fail
            go_meet
            rw [G.out]
            exact ⟨rfl, 0, rfl⟩
  case rest =>
    obtain ⟨rfl, mm, rfl⟩ := hcut
    have HB2 := Lib.hid (below_drewN HB1.out mm)
    by_cases e0 : knownB pr = true
    · rw [e0]
      by_cases e1 : co < 1
      · have HE : Hid (x = 1) := Lib.hid (HX.out.symm.trans (chk_no (okP_not (fun h => by omega))))
        go_wp2_with fail
        go_quiet (fail)
        go_wp2_with fail
        go_ret
        exact ⟨by rw [HE.out]; rfl, below_drewN HB2.out _⟩
      · have b1 : decide (co < 1) = false := decide_eq_false e1
        by_cases e2 : cl < 1
        · have HE : Hid (x = 1) := Lib.hid (HX.out.symm.trans (chk_no (okP_not (fun h => by omega))))
          clear e1
          go_wp2_with fail
          go_quiet (fail)
          go_wp2_with fail
          go_ret
          exact ⟨by rw [HE.out]; rfl, below_drewN HB2.out _⟩
        · have b2 : decide (cl < 1) = false := decide_eq_false e2
          have hq := quo_iff (cl := cl) (show 1 ≤ co by omega)
          obtain ⟨D, hD⟩ : ∃ D, (8192 : Int).tdiv co = D := ⟨_, rfl⟩
          rw [hD] at hq
          have hne : (co == 0) = false := beq_eq_false_iff_ne.2 (by omega)
          have hne2 : ¬ co = 0 := by omega
          have hDb : 0 ≤ D ∧ D ≤ 8192 := by
            rw [← hD, Int.tdiv_eq_ediv_of_nonneg (by omega)]
            exact ⟨Int.ediv_nonneg (by omega) (by omega), Int.ediv_le_self _ (by omega)⟩
          obtain ⟨D1, D2⟩ := hDb
          by_cases e3 : D < cl
          · have HE : Hid (x = 1) := Lib.hid (HX.out.symm.trans (chk_no (okP_not (fun h => hq.1 e3 h.2.2.2))))
            clear hq e1 e2
            go_wp2_with fail
            go_quiet (fail)
            go_wp2_with fail
            go_ret
            exact ⟨by rw [HE.out]; rfl, below_drewN HB2.out _⟩
          · have b3 : decide (D < cl) = false := decide_eq_false e3
            have HE : Hid (x = 0) := Lib.hid (HX.out.symm.trans (chk_yes (okP_iff.2 ⟨e0, by omega, by omega, by
              by_cases h : co * cl ≤ 8192
              · exact h
              · exact absurd (hq.2 h) e3⟩)))
            clear hq e1 e2
            go_wp2_with fail
            go_quiet (fail)
            go_wp2_with fail
            go_ret
            exact ⟨by rw [HE.out]; rfl, below_drewN HB2.out _⟩
    · have e0' : knownB pr = false := by simpa using e0
      have HE : Hid (x = 1) := Lib.hid (HX.out.symm.trans (chk_no (okP_not (fun h => e0 h.1))))
      rw [e0']
      clear e0 e0'
      go_wp2_with fail
      go_quiet (fail)
      go_wp2_with fail
      go_ret
      exact ⟨by rw [HE.out]; rfl, below_drewN HB2.out _⟩

/-! ### The document's Check. -/
/-! ### Row, tags. -/
def rowN (pr co cl : Int) : Int := if okP pr co cl = true then co * cl else 0

set_option maxRecDepth 100000 in
set_option maxHeartbeats 4000000 in
theorem rowP_any (pr co cl : Int) (w : World) (h0 : I64 pr) (h1 : I64 co) (h2 : I64 cl) :
    Calls Try.prog 10 #[parmsV pr co cl] w fun e w' => e = .returned (.int .i64 (rowN pr co cl)) ∧ Below w.heap.size w w' := by
  have hB := parms_blk w pr co cl
  have HB1 := Lib.hid ((Below.refl w.heap.size w).alloc (Nat.le_refl _) (.cells #[.int .i64 pr, .int .i64 co, .int .i64 cl] 23))
  obtain ⟨W, hW⟩ : ∃ W, w.alloc (.cells #[.int .i64 pr, .int .i64 co, .int .i64 cl] 23) = W := ⟨_, rfl⟩
  obtain ⟨N, hN⟩ : ∃ N, w.heap.size = N := ⟨_, rfl⟩
  have HN := Lib.hid hN
  rw [hN, hW] at hB HB1
  rw [hN]
  have HBk := Lib.hid hB
  have c0 := hB.cell 0
  have c1 := hB.cell 1
  have c2 := hB.cell 2
  simp only [List.getElem?_toArray, List.getElem?_cons_zero, List.getElem?_cons_succ] at c0 c1 c2
  obtain ⟨x, hx⟩ : ∃ x, rowN pr co cl = x := ⟨_, rfl⟩
  rw [hx]
  have HX := Lib.hid hx
  have HC := Lib.hid (fun W' : World => checkP_any pr co cl W' h0 h1 h2)
  unfold parmsV at HC ⊢
  by_cases hok : okP pr co cl = true
  · obtain ⟨k1, k2, k3, k4⟩ := okP_iff.1 hok
    rw [chk_yes hok] at HC
    have hm0 : 0 ≤ co * cl := Int.mul_nonneg (by omega) (by omega)
    obtain ⟨M, hM⟩ : ∃ M, co * cl = M := ⟨_, rfl⟩
    have HE : Hid (x = M) := Lib.hid (by rw [← HX.out]; unfold rowN; rw [if_pos hok]; exact hM)
    have hMw : IntKind.i64.wrap (co * cl) = M := by rw [hM]; exact IntWalk.i64_in _ (by omega)
    rw [hM] at hm0 k4
    clear hx hB hok k1 k2 k3
    go_enter Try.func10, Try.ntmps10
    go_wp2_with fail
    refine (HC.out _).mono ?_
    rintro e w2 ⟨rfl, hb⟩
    have HB2 := Lib.hid (HB1.out.trans (hb.mono (by have := HB1.out.size; rw [HN.out] at this; exact this)))
    have hB2 := HBk.out.below hb HBk.out.lt
    have d1 := hB2.cell 1
    have d2 := hB2.cell 2
    simp only [List.getElem?_toArray, List.getElem?_cons_zero, List.getElem?_cons_succ] at d1 d2
    clear hb hB2
    go_wp2_with fail
    go_ret
    exact ⟨by rw [HE.out]; rfl, HB2.out⟩
  · have hok' : okP pr co cl = false := by simpa using hok
    rw [chk_no hok'] at HC
    have HE : Hid (x = 0) := Lib.hid (by rw [← HX.out]; unfold rowN; rw [if_neg hok])
    clear hx hB hok hok'
    go_enter Try.func10, Try.ntmps10
    go_wp2_with fail
    refine (HC.out _).mono ?_
    rintro e w2 ⟨rfl, hb⟩
    have HB2 := Lib.hid (HB1.out.trans (hb.mono (by have := HB1.out.size; rw [HN.out] at this; exact this)))
    clear hb
    go_wp2_with fail
    go_ret
    exact ⟨by rw [HE.out]; rfl, HB2.out⟩

def tgsI (pr : Int) : Int := if pr < 10 then 0 else 1
set_option maxRecDepth 100000 in
theorem tags_any (pr co cl : Int) (w : World) :
    Calls Try.prog 15 #[parmsV pr co cl] w fun e w' => e = .returned (.int .i64 (tgsI pr)) ∧ Below w.heap.size w w' := by
  have hB := parms_blk w pr co cl
  have HB1 := Lib.hid ((Below.refl w.heap.size w).alloc (Nat.le_refl _) (.cells #[.int .i64 pr, .int .i64 co, .int .i64 cl] 23))
  have c0 := hB.cell 0
  simp only [List.getElem?_toArray, List.getElem?_cons_zero] at c0
  unfold parmsV
  clear hB
  by_cases h : pr < 10
  · have HE : Hid (tgsI pr = 0) := Lib.hid (by unfold tgsI; rw [if_pos h])
    go_enter Try.func15, Try.ntmps15
    go_wp2_with fail
    go_ret
    exact ⟨by rw [HE.out]; rfl, HB1.out⟩
  · have HE : Hid (tgsI pr = 1) := Lib.hid (by unfold tgsI; rw [if_neg h])
    go_enter Try.func15, Try.ntmps15
    go_wp2_with fail
    go_ret
    exact ⟨by rw [HE.out]; rfl, HB1.out⟩
end Go.Proofs.Yticliemmplefoaa
