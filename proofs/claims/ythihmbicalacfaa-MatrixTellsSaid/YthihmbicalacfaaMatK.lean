/-
  matrix: what is read of an object that a matrix was made; the test of a small whole matrix.
-/
import Derived.Test.YthihmbicalacfaaMatJ
import Derived.Test.YthihmbicalacfaaMatE
namespace Go.Proofs.Ythihmbicalacfaa
open Go.RowKit Fix Mat

theorem num_back {z : Int} (h : inRange z = true) : isNum (kindU z) (numU z) = true ∧ unitsOf (kindU z) (numU z) = z := by
  have hr := inRange_yes h
  have h1 := Int.mul_tdiv_add_tmod z 10000
  by_cases h0 : z.tmod 10000 = 0
  · have e1 : kindU z = 2 := by unfold kindU; rw [if_pos h0]
    have e2 : numU z = z.tdiv 10000 := by unfold numU; rw [if_pos h0]
    rw [e1, e2]
    have e3 : isNum 2 (z.tdiv 10000) = true := by
      have b1 : -107374 ≤ z.tdiv 10000 := by omega
      have b2 : z.tdiv 10000 ≤ 107374 := by omega
      unfold isNum
      simp [b1, b2]
    refine ⟨e3, ?_⟩
    unfold unitsOf
    rw [if_pos e3, if_pos rfl]
    omega
  · have e1 : kindU z = 3 := by unfold kindU; rw [if_neg h0]
    have e2 : numU z = z := by unfold numU; rw [if_neg h0]
    rw [e1, e2]
    have e3 : isNum 3 z = true := by unfold isNum; simp [h]
    refine ⟨e3, ?_⟩
    unfold unitsOf
    rw [if_pos e3]
    rfl
theorem objL_at (m : Mx) {k : Nat} (h : k < 6) : (objL m 6).getD k (0, 0) = (kindU (m.at k), numU (m.at k)) := by
  rcases six h with rfl | rfl | rfl | rfl | rfl | rfl <;> rfl
theorem okM_in {m : Mx} (h : okM m = true) {k : Nat} (hk : k < 6) : inRange (m.at k) = true := by
  obtain ⟨h1, h2, h3, h4, h5, h6⟩ := okM_yes h
  rcases six hk with rfl | rfl | rfl | rfl | rfl | rfl
  · exact h1
  · exact h2
  · exact h3
  · exact h4
  · exact h5
  · exact h6
/-- Read inverts Object. -/
theorem read_obj {m : Mx} (h : okM m = true) : readQ (objL m 6) = m ∧ readX (objL m 6) = 0 := by
  have hall : allNum (objL m 6) = true := by
    refine allNum_at fun j hj => ?_
    have hj6 : j < 6 := by rw [objL_len] at hj; exact hj
    have e : (objL m 6)[j]'hj = (kindU (m.at j), numU (m.at j)) := by
      have := objL_at m hj6
      rw [List.getD_eq_getElem?_getD, List.getElem?_eq_getElem hj] at this
      exact this
    exact (congrArg (fun p : Int × Int => isNum p.1 p.2) e).trans (num_back (okM_in h hj6)).1
  have hu : ∀ k, k < 6 → uAt (objL m 6) k = m.at k := fun k hk => by
    unfold uAt
    rw [objL_at m hk]
    exact (num_back (okM_in h hk)).2
  refine ⟨?_, by unfold readX; rw [if_pos hall]⟩
  unfold readQ
  rw [if_pos hall]
  unfold mxOf
  rw [hu 0 (by decide), hu 1 (by decide), hu 2 (by decide), hu 3 (by decide), hu 4 (by decide), hu 5 (by decide)]
  rfl

/-! ### whole7. -/
def w7c (n : Int) : Bool := decide (n.tmod 10000 = 0) && (decide (-70000 ≤ n) && decide (n ≤ 70000))
def w7e (n : Int) : Bool := decide (-1000000 ≤ n) && decide (n ≤ 1000000)
def w7 (m : Mx) : Bool := w7c m.a && w7c m.b && w7c m.c && w7c m.d && (w7e m.e && w7e m.f)
theorem w7c_yes {n : Int} (h : w7c n = true) : n.tmod 10000 = 0 ∧ -70000 ≤ n ∧ n ≤ 70000 := by
  unfold w7c at h
  simp only [Bool.and_eq_true, decide_eq_true_eq] at h
  exact h
theorem w7c_no {n : Int} (h : ¬ w7c n = true) : n.tmod 10000 ≠ 0 ∨ (n.tmod 10000 = 0 ∧ n < -70000) ∨ (n.tmod 10000 = 0 ∧ ¬ n < -70000 ∧ 70000 < n) := by
  unfold w7c at h
  simp only [Bool.and_eq_true, decide_eq_true_eq] at h
  by_cases h0 : n.tmod 10000 = 0
  · by_cases h1 : n < -70000
    · exact .inr (.inl ⟨h0, h1⟩)
    · exact .inr (.inr ⟨h0, h1, by omega⟩)
  · exact .inl h0
theorem w7_not {m : Mx} {k : Nat} (hk : k < 4) (h : ¬ w7c (m.at k) = true) : w7 m = false := by
  have h2 := Bool.eq_false_iff.2 h
  unfold w7
  rcases (show k = 0 ∨ k = 1 ∨ k = 2 ∨ k = 3 by omega) with rfl | rfl | rfl | rfl
  · rw [show w7c m.a = false from h2]; rfl
  · rw [show w7c m.b = false from h2]; simp
  · rw [show w7c m.c = false from h2]; simp
  · rw [show w7c m.d = false from h2]; simp
theorem w7_at {m : Mx} (h : ∀ k, k < 4 → w7c (m.at k) = true) : w7 m = (w7e m.e && w7e m.f) := by
  unfold w7
  rw [show w7c m.a = true from h 0 (by decide), show w7c m.b = true from h 1 (by decide), show w7c m.c = true from h 2 (by decide), show w7c m.d = true from h 3 (by decide)]
  rfl
/-- A small whole matrix is One times whole numbers. -/
theorem w7_whole {m : Mx} (h : w7 m = true) : ∃ A, m = wM A ∧ Small A 7 1000000 := by
  unfold w7 w7e at h
  simp only [Bool.and_eq_true, decide_eq_true_eq] at h
  obtain ⟨⟨⟨⟨h1, h2⟩, h3⟩, h4⟩, ⟨h5, h6⟩, h7, h8⟩ := h
  have q := fun {n : Int} (hn : w7c n = true) => (show n = n.tdiv 10000 * 10000 ∧ Le (n.tdiv 10000) 7 from by
    have h0 := w7c_yes hn
    have e := Int.mul_tdiv_add_tmod n 10000
    unfold Le
    omega)
  refine ⟨⟨m.a.tdiv 10000, m.b.tdiv 10000, m.c.tdiv 10000, m.d.tdiv 10000, m.e, m.f⟩, ?_, (q h1).2, (q h2).2, (q h3).2, (q h4).2, ⟨h5, h6⟩, ⟨h7, h8⟩⟩
  unfold wM
  simp only
  rw [← (q h1).1, ← (q h2).1, ← (q h3).1, ← (q h4).1]

set_option maxRecDepth 100000 in
set_option maxHeartbeats 2000000 in
theorem whole7_any (m : Mx) (w : World) :
    Calls Try.prog 34 #[mxV m] w fun e w' => e = .returned (.bool (w7 m)) ∧ Below w.heap.size w w' := by
  unfold mxV
  obtain ⟨N, hN⟩ : ∃ N, w.heap.size = N := ⟨_, rfl⟩
  obtain ⟨V, hV⟩ : ∃ V, w.alloc (.cells #[.int .i64 m.a, .int .i64 m.b, .int .i64 m.c, .int .i64 m.d, .int .i64 m.e, .int .i64 m.f] 23) = V := ⟨_, rfl⟩
  have hVs : V.heap.size = N + 1 := by rw [← hV, World.size_alloc, hN]
  have bA : Blk V N 23 #[.int .i64 m.a, .int .i64 m.b, .int .i64 m.c, .int .i64 m.d, .int .i64 m.e, .int .i64 m.f] := by rw [← hV, ← hN]; exact Blk.new w _ _
  have hBV : Below N w V := by rw [← hV, ← hN]; exact (Below.refl _ w).alloc (Nat.le_refl _) _
  obtain ⟨U, hU⟩ : ∃ U, V.alloc (.cells #[.int .i64 m.a, .int .i64 m.b, .int .i64 m.c, .int .i64 m.d] 2) = U := ⟨_, rfl⟩
  have HA := Lib.hid (show Blk U N 23 #[.int .i64 m.a, .int .i64 m.b, .int .i64 m.c, .int .i64 m.d, .int .i64 m.e, .int .i64 m.f] by rw [← hU]; exact bA.alloc _)
  have HG := Lib.hid (show Blk U (N + 1) 2 #[.int .i64 m.a, .int .i64 m.b, .int .i64 m.c, .int .i64 m.d] by rw [← hU, ← hVs]; exact Blk.new V _ _)
  have HB := Lib.hid (show Below N w U by rw [← hU]; exact hBV.alloc (by omega) _)
  obtain ⟨⟨a0, a1, a2, a3, a4, a5⟩, _⟩ := six_cells bA
  have hm : ∀ n : Int, IntKind.i64.wrap (n.tmod 10000) = n.tmod 10000 := fun n => by
    have q1 := Int.tmod_lt_of_pos n (show (0 : Int) < 10000 by decide)
    have q2 := Int.lt_tmod_of_pos n (show (0 : Int) < 10000 by decide)
    exact IntWalk.i64_in _ (by omega)
  have HM := Lib.hid hm
  rw [hN]
  go_enter Try.func34, Try.ntmps34
  go_upto_region 1 with fail
  clear hm bA hBV
  go_wp2_with fail
  clear a0 a1 a2 a3 a4 a5 hU hVs hV hN
  go_loopw [15] (fun i wr => ∃ k : Nat, k ≤ 4 ∧ i = .int .i64 (k : Int) ∧ Hid (∀ j, j < k → w7c (m.at j) = true) ∧ wr = U) (fun i _ => 4 - (intOf i).toNat)
  case atStart => exact ⟨0, by omega, rfl, Lib.hid (fun j h => by omega), rfl⟩
  case round =>
    obtain ⟨k, hk, rfl, hinv, rfl⟩ := hrel
    by_cases hlt : k < 4
    · have hik : (k : Int) < 4 := by omega
      have hik0 : (0 : Int) ≤ (k : Int) := by omega
      have hcell : wr.cell? ⟨N + 1, k, none⟩ = some (.int .i64 (m.at k)) := (HG.out.cell k).trans (by rcases (show k = 0 ∨ k = 1 ∨ k = 2 ∨ k = 3 by omega) with rfl | rfl | rfl | rfl <;> rfl)
      obtain ⟨v, hv⟩ : ∃ v, m.at k = v := ⟨_, rfl⟩
      rw [hv] at hcell
      have hw := HM.out v
      by_cases hr : w7c v = true
      · obtain ⟨r0, r1, r2⟩ := w7c_yes hr
        have r3 : ¬ v < -70000 := by omega
        have r4 : ¬ 70000 < v := by omega
        have HV := Lib.hid (show w7c (m.at k) = true by rw [hv]; exact hr)
        clear hr r1 r2 hv
        go_wp2_with fail
        go_roundw
        case rel =>
          refine ⟨k + 1, by omega, by go_num, Lib.hid (fun j hj => ?_), trivial⟩
          by_cases h : j < k
          · exact hinv.out j h
          · obtain rfl : j = k := by omega
            exact HV.out
        case measure => simp [intOf]; omega
      · have HE := Lib.hid (w7_not (m := m) hlt (by rw [hv]; exact hr))
        rcases w7c_no hr with h1 | ⟨h1, h2⟩ | ⟨h1, h2, h3⟩
        · clear hr hv
          go_wp2_with fail
          go_ret
          exact ⟨ret_bool HE.out.symm, HB.out⟩
        · clear hr hv
          go_wp2_with fail
          go_ret
          exact ⟨ret_bool HE.out.symm, HB.out⟩
        · clear hr hv
          go_wp2_with fail
          go_ret
          exact ⟨ret_bool HE.out.symm, HB.out⟩
    · obtain rfl : k = 4 := by omega
      have HE := Lib.hid (w7_at hinv.out)
      obtain ⟨⟨a0, a1, a2, a3, a4, a5⟩, _⟩ := six_cells HA.out
      obtain ⟨x, hx⟩ : ∃ x, m.e = x := ⟨_, rfl⟩
      obtain ⟨y, hy⟩ : ∃ y, m.f = y := ⟨_, rfl⟩
      rw [hx] at a4 HE
      rw [hy] at a5 HE
      rw [show ((4 : Nat) : Int) = 4 from rfl]
      have hret : ∀ b : Bool, (w7e x && w7e y) = b → w7 m = b := fun b h => HE.out.trans h
      have HR := Lib.hid hret
      clear hret hlt hk hx hy
      by_cases c1 : -1000000 ≤ x
      · by_cases c2 : x ≤ 1000000
        · by_cases c3 : -1000000 ≤ y
          · by_cases c4 : y ≤ 1000000
            · have H := Lib.hid (HR.out true (by unfold w7e; simp [c1, c2, c3, c4]))
              go_wp2_with fail
              go_ret
              exact ⟨ret_bool H.out.symm, HB.out⟩
            · have H := Lib.hid (HR.out false (by unfold w7e; simp [c4]))
              go_wp2_with fail
              go_ret
              exact ⟨ret_bool H.out.symm, HB.out⟩
          · have H := Lib.hid (HR.out false (by unfold w7e; simp [c3]))
            go_wp2_with fail
            go_ret
            exact ⟨ret_bool H.out.symm, HB.out⟩
        · have H := Lib.hid (HR.out false (by unfold w7e; simp [c2]))
          go_wp2_with fail
          go_ret
          exact ⟨ret_bool H.out.symm, HB.out⟩
      · have H := Lib.hid (HR.out false (by unfold w7e; simp [c1]))
        go_wp2_with fail
        go_ret
        exact ⟨ret_bool H.out.symm, HB.out⟩
end Go.Proofs.Ythihmbicalacfaa
