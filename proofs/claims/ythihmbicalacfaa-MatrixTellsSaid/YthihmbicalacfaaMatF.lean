/-
  matrix: Box: the bounding box of a rectangle's four corners, moved.
-/
import Derived.Test.YthihmbicalacfaaMatE
import Derived.BigRegion
namespace Go.Proofs.Ythihmbicalacfaa
open Go.RowKit Fix Mat

/-- A rectangle. -/
structure Mat.Rc where
  x0 : Int
  y0 : Int
  x1 : Int
  y1 : Int
def rcV (r : Rc) : Value := .agg #[.int .i64 r.x0, .int .i64 r.y0, .int .i64 r.x1, .int .i64 r.y1]
def rcC (r : Rc) : Array Value := #[.int .i64 r.x0, .int .i64 r.y0, .int .i64 r.x1, .int .i64 r.y1]
/-- The corners, in the document's order. -/
def corX (r : Rc) : Nat → Int
  | 0 => r.x0
  | 1 => r.x1
  | 2 => r.x0
  | _ => r.x1
def corY (r : Rc) : Nat → Int
  | 0 => r.y0
  | 1 => r.y0
  | 2 => r.y1
  | _ => r.y1
/-- The box of the corners 0 to k. -/
def boxN (m : Mx) (r : Rc) : Nat → Rc
  | 0 => ⟨appA m (corX r 0) (corY r 0), appB m (corX r 0) (corY r 0), appA m (corX r 0) (corY r 0), appB m (corX r 0) (corY r 0)⟩
  | k + 1 => ⟨min (boxN m r k).x0 (appA m (corX r (k + 1)) (corY r (k + 1))), min (boxN m r k).y0 (appB m (corX r (k + 1)) (corY r (k + 1))), max (boxN m r k).x1 (appA m (corX r (k + 1)) (corY r (k + 1))), max (boxN m r k).y1 (appB m (corX r (k + 1)) (corY r (k + 1)))⟩
def boxO (m : Mx) (r : Rc) : Bool := appO m (corX r 0) (corY r 0) && appO m (corX r 1) (corY r 1) && appO m (corX r 2) (corY r 2) && appO m (corX r 3) (corY r 3)
theorem boxO_at {m : Mx} {r : Rc} (h : ∀ k, k < 4 → appO m (corX r k) (corY r k) = true) : boxO m r = true := by
  unfold boxO
  rw [h 0 (by decide), h 1 (by decide), h 2 (by decide), h 3 (by decide)]
  rfl
theorem boxO_not {m : Mx} {r : Rc} {k : Nat} (hk : k < 4) (h : ¬ appO m (corX r k) (corY r k) = true) : boxO m r = false := by
  have h2 := Bool.eq_false_iff.2 h
  unfold boxO
  rcases (show k = 0 ∨ k = 1 ∨ k = 2 ∨ k = 3 by omega) with rfl | rfl | rfl | rfl
  · rw [h2]; rfl
  · rw [h2, Bool.and_false]; rfl
  · rw [h2, Bool.and_false]; rfl
  · rw [h2, Bool.and_false]
/-- How Box's work ends. -/
def boxEnd (m : Mx) (r : Rc) : Ending := if boxO m r then .returned (rcV (boxN m r 3)) else gUp 2
theorem appEnd_yes {m : Mx} {x y : Int} (h : appO m x y = true) : appEnd m x y = .returned (ptV (appA m x y) (appB m x y)) := by unfold appEnd; rw [if_pos h]
theorem appEnd_no {m : Mx} {x y : Int} (h : ¬ appO m x y = true) : appEnd m x y = gUp 2 := by unfold appEnd; rw [if_neg h]

theorem min_two (x y : Int) (ats : Array TypeId) (ty : TypeId) : Builtin.min_ ats ty #[.int .i64 x, .int .i64 y] = pure (.int .i64 (min x y)) := by
  have h : (if y < x then y else x) = min x y := by split <;> omega
  rw [← h]
  rfl
theorem max_two (x y : Int) (ats : Array TypeId) (ty : TypeId) : Builtin.max_ ats ty #[.int .i64 x, .int .i64 y] = pure (.int .i64 (max x y)) := by
  have h : (if x < y then y else x) = max x y := by split <;> omega
  rw [← h]
  rfl
theorem four_cells {w : World} {g : Nat} {t : TypeId} {v0 v1 v2 v3 : Value} (h : Blk w g t #[v0, v1, v2, v3]) :
    (w.cell? ⟨g, 0, none⟩ = some v0 ∧ w.cell? ⟨g, 1, none⟩ = some v1 ∧ w.cell? ⟨g, 2, none⟩ = some v2 ∧ w.cell? ⟨g, 3, none⟩ = some v3) ∧
    (w.frozen? ⟨g, 0, none⟩ = false ∧ w.frozen? ⟨g, 1, none⟩ = false ∧ w.frozen? ⟨g, 2, none⟩ = false ∧ w.frozen? ⟨g, 3, none⟩ = false) :=
  ⟨⟨(h.cell 0).trans rfl, (h.cell 1).trans rfl, (h.cell 2).trans rfl, (h.cell 3).trans rfl⟩, ⟨h.frozen 0, h.frozen 1, h.frozen 2, h.frozen 3⟩⟩
theorem below_four {B g : Nat} {w w' : World} (h : Below B w w') (hg : B ≤ g) (u0 u1 u2 u3 : Value) : Below B w ((((w'.setCell ⟨g, 0, none⟩ u0).setCell ⟨g, 1, none⟩ u1).setCell ⟨g, 2, none⟩ u2).setCell ⟨g, 3, none⟩ u3) :=
  (((h.setCell (p := ⟨g, 0, none⟩) hg _).setCell (p := ⟨g, 1, none⟩) hg _).setCell (p := ⟨g, 2, none⟩) hg _).setCell (p := ⟨g, 3, none⟩) hg _

/-- What Box's rounds know. -/
structure BoxAt (w : World) (N A R X : Nat) (m : Mx) (r : Rc) (k : Nat) (wr : World) : Prop where
  ba : Blk wr A 23 #[.int .i64 m.a, .int .i64 m.b, .int .i64 m.c, .int .i64 m.d, .int .i64 m.e, .int .i64 m.f]
  br : Blk wr R 27 #[.int .i64 0, .int .i64 0, .int .i64 0, .int .i64 0]
  bx : Blk wr X 27 (rcC (boxN m r k))
  below : Below N w wr
  ok : ∀ j, j < k + 1 → appO m (corX r j) (corY r j) = true
theorem BoxAt.keep {w : World} {N A R X : Nat} {m : Mx} {r : Rc} {k : Nat} {wr w' : World} (h : BoxAt w N A R X m r k wr) (hb : Below wr.heap.size wr w') (hN : N ≤ wr.heap.size) : BoxAt w N A R X m r k w' :=
  ⟨h.ba.below hb h.ba.lt, h.br.below hb h.br.lt, h.bx.below hb h.bx.lt, h.below.trans (hb.mono hN), h.ok⟩

set_option maxRecDepth 100000 in
set_option maxHeartbeats 8000000 in
theorem box_work (A B : Nat) (m : Mx) (r : Rc) (w : World) (hA : Blk w A 23 #[.int .i64 m.a, .int .i64 m.b, .int .i64 m.c, .int .i64 m.d, .int .i64 m.e, .int .i64 m.f]) (hB : Blk w B 27 #[.int .i64 r.x0, .int .i64 r.y0, .int .i64 r.x1, .int .i64 r.y1]) :
    Calls Try.prog 46 #[.pointer (some ⟨A, 0, none⟩), .pointer (some ⟨B, 0, none⟩)] w fun e w' => e = boxEnd m r ∧ Below w.heap.size w w' := by
  obtain ⟨N, hN⟩ : ∃ N, w.heap.size = N := ⟨_, rfl⟩
  obtain ⟨V, hV⟩ : ∃ V, w.alloc (.cells #[.int .i64 0, .int .i64 0, .int .i64 0, .int .i64 0] 27) = V := ⟨_, rfl⟩
  have hS : V.heap.size = N + 1 := by rw [← hV, World.size_alloc, hN]
  have HA1 := Lib.hid (show Blk V A 23 #[.int .i64 m.a, .int .i64 m.b, .int .i64 m.c, .int .i64 m.d, .int .i64 m.e, .int .i64 m.f] by rw [← hV]; exact hA.alloc _)
  have HB1 := Lib.hid (show Blk V B 27 #[.int .i64 r.x0, .int .i64 r.y0, .int .i64 r.x1, .int .i64 r.y1] by rw [← hV]; exact hB.alloc _)
  have HR1 := Lib.hid (show Blk V N 27 #[.int .i64 0, .int .i64 0, .int .i64 0, .int .i64 0] by rw [← hV, ← hN]; exact Blk.new w _ _)
  have HW1 := Lib.hid (show Below N w V by rw [← hV, ← hN]; exact (Below.refl _ w).alloc (Nat.le_refl _) _)
  have HS := Lib.hid hS
  have HAN := Lib.hid (show A ≠ N ∧ A < N + 1 ∧ B < N + 1 by have := hA.lt; have := hB.lt; omega)
  obtain ⟨⟨a0, a1, a2, a3, a4, a5⟩, _⟩ := six_cells HA1.out
  obtain ⟨⟨b0, b1, b2, b3⟩, _⟩ := four_cells HB1.out
  rw [hN]
  go_enter Try.func46, Try.ntmps46
  go_upto_region 1 with fail
  clear hA hB hV hN hS
  go_wp2_with fail
  refine (applied_any m r.x0 r.y0 V).mono ?_
  rintro e w1 ⟨rfl, hb⟩
  have HA2 := Lib.hid (HA1.out.below hb HA1.out.lt)
  have HB2 := Lib.hid (HB1.out.below hb HB1.out.lt)
  have HR2 := Lib.hid (HR1.out.below hb HR1.out.lt)
  have HW2 := Lib.hid (HW1.out.trans (hb.mono (by rw [HS.out]; omega)))
  have HS2 := Lib.hid (show N + 1 ≤ w1.heap.size by have := hb.size; rw [HS.out] at this; exact this)
  clear hb a0 a1 a2 a3 a4 a5 b0 b1 b2 b3
  by_cases ho : appO m r.x0 r.y0 = true
  · have HE := Lib.hid (appEnd_yes ho)
    obtain ⟨u, hu⟩ : ∃ u, appA m r.x0 r.y0 = u := ⟨_, rfl⟩
    obtain ⟨v, hv⟩ : ∃ v, appB m r.x0 r.y0 = v := ⟨_, rfl⟩
    have HO0 : Hid (appO m (corX r 0) (corY r 0) = true) := Lib.hid ho
    have HB0 : Hid (boxN m r 0 = ⟨u, v, u, v⟩) := Lib.hid (by rw [← hu, ← hv]; rfl)
    rw [hu, hv] at HE
    rw [HE.out]
    unfold ptV
    clear ho hu hv HE
    obtain ⟨Q, hQ⟩ : ∃ Q, w1.heap.size = Q := ⟨_, rfl⟩
    go_upto_region 2 with fail
    obtain ⟨w2, hw2⟩ : ∃ w2, w1.alloc (.cells #[.int .i64 u, .int .i64 v] 25) = w2 := ⟨_, rfl⟩
    have hs2 : w2.heap.size = Q + 1 := by rw [← hw2, World.size_alloc, hQ]
    have HP3 := Lib.hid (show Blk w2 Q 25 #[.int .i64 u, .int .i64 v] by rw [← hw2, ← hQ]; exact Blk.new w1 _ _)
    have HBl2 : Hid (Below Q w1 w2) := Lib.hid (by rw [← hw2, ← hQ]; exact (Below.refl _ w1).alloc (Nat.le_refl _) _)
    have HQ := Lib.hid (show N + 1 ≤ Q by rw [← hQ]; exact HS2.out)
    rw [hw2]
    obtain ⟨c0, c1⟩ := two_cells HP3.out
    have hs2' := hs2
    clear hw2 hQ
    obtain ⟨X, hX⟩ : ∃ X, Q + 1 = X := ⟨_, rfl⟩
    rw [hX] at hs2 hs2'
    go_upto_region 3 with fail
    obtain ⟨w3, hw3⟩ : ∃ w3, w2.alloc (.cells #[.int .i64 u, .int .i64 v, .int .i64 u, .int .i64 v] 27) = w3 := ⟨_, rfl⟩
    have HBl3 : Hid (Below Q w1 w3) := Lib.hid (by rw [← hw3]; exact HBl2.out.alloc (by rw [hs2, ← hX]; omega) _)
    have HX3 := Lib.hid (show Blk w3 X 27 #[.int .i64 u, .int .i64 v, .int .i64 u, .int .i64 v] by rw [← hw3, ← hs2]; exact Blk.new w2 _ _)
    have HXQ := Lib.hid (show Q + 1 = X from hX)
    rw [hw3]
    clear hw3 hs2 hs2' hX c0 c1 HP3
    have HI0 : Hid (BoxAt w N A N X m r 0 w3) := Lib.hid (⟨HA2.out.below HBl3.out (by have := HAN.out; have := HQ.out; omega), HR2.out.below HBl3.out (by have := HQ.out; omega), by rw [HB0.out]; exact HX3.out, HW2.out.trans (HBl3.out.mono (by have := HQ.out; omega)), fun j hj => (show j = 0 by omega) ▸ HO0.out⟩)
    obtain ⟨⟨b0, b1, b2, b3⟩, _⟩ := four_cells (HB2.out.below HBl3.out (by have := HAN.out; have := HQ.out; omega))
    have HNX := Lib.hid (show N ≤ X ∧ N ≠ X ∧ A ≠ X by have := HXQ.out; have := HQ.out; have := HAN.out; omega)
    go_upto_region 4 with fail
    obtain ⟨T, hT⟩ : ∃ T : Value, .agg #[.int .i64 r.x1, .int .i64 r.y0, .int .i64 r.x0, .int .i64 r.y1, .int .i64 r.x1, .int .i64 r.y1] = T := ⟨_, rfl⟩
    have HT := Lib.hid (fun (k : Nat) (hk : k < 3) (W : World) => (show (Instr.index 70 T (.int .i64 (k : Int))).run Try.prog W = .ok (.agg #[.int .i64 (corX r (k + 1)), .int .i64 (corY r (k + 1))]) W from by
      rw [← hT]
      rcases (show k = 0 ∨ k = 1 ∨ k = 2 by omega) with rfl | rfl | rfl <;> kernel_rfl))
    rw [hT]
    clear hT b0 b1 b2 b3 HB0 HO0 HA2 HB2 HR2 HW2 HS2 HA1 HB1 HR1 HW1 HBl2 HBl3 HX3
    go_loopw [40] (fun i wr => ∃ k : Nat, k ≤ 3 ∧ i = .int .i64 (k : Int) ∧ Hid (BoxAt w N A N X m r k wr)) (fun i _ => 3 - (intOf i).toNat)
    case atStart => exact ⟨0, by omega, rfl, HI0⟩
    case round =>
      clear HI0
      obtain ⟨k, hk, rfl, HI⟩ := hrel
      by_cases hlt : k < 3
      · have hi := HT.out k hlt
        obtain ⟨x, hx⟩ : ∃ x, corX r (k + 1) = x := ⟨_, rfl⟩
        obtain ⟨y, hy⟩ : ∃ y, corY r (k + 1) = y := ⟨_, rfl⟩
        rw [hx, hy] at hi
        obtain ⟨Z, hZ⟩ : ∃ Z, wr.heap.size = Z := ⟨_, rfl⟩
        have HXY := Lib.hid (And.intro hx hy)
        have HK := Lib.hid hlt
        have hik : (k : Int) < 3 := by omega
        clear hx hy hlt hk
        go_upto_region 6 with fail
        obtain ⟨w4, hw4⟩ : ∃ w4, wr.alloc (.cells #[.int .i64 x, .int .i64 y] 25) = w4 := ⟨_, rfl⟩
        have HI4 : Hid (BoxAt w N A N X m r k w4) := Lib.hid (by rw [← hw4]; exact HI.out.keep ((Below.refl _ wr).alloc (Nat.le_refl _) _) (Nat.le_of_lt HI.out.br.lt))
        have HP4 := Lib.hid (show Blk w4 Z 25 #[.int .i64 x, .int .i64 y] by rw [← hw4, ← hZ]; exact Blk.new wr _ _)
        rw [hw4]
        clear hw4 hZ HI hi
        obtain ⟨⟨a0, a1, a2, a3, a4, a5⟩, _⟩ := six_cells HI4.out.ba
        obtain ⟨c0, c1⟩ := two_cells HP4.out
        go_wp2_with fail
        refine (applied_any m x y w4).mono ?_
        rintro e w5 ⟨rfl, hb⟩
        have HI5 := Lib.hid (HI4.out.keep hb (Nat.le_of_lt HI4.out.br.lt))
        clear hb a0 a1 a2 a3 a4 a5 c0 c1 HI4 HP4
        by_cases hok : appO m x y = true
        · have HE5 := Lib.hid (appEnd_yes hok)
          obtain ⟨p, hp⟩ : ∃ p, appA m x y = p := ⟨_, rfl⟩
          obtain ⟨q, hq⟩ : ∃ q, appB m x y = q := ⟨_, rfl⟩
          have HOK := Lib.hid (show appO m (corX r (k + 1)) (corY r (k + 1)) = true by rw [HXY.out.1, HXY.out.2]; exact hok)
          obtain ⟨l0, hl0⟩ : ∃ z, (boxN m r k).x0 = z := ⟨_, rfl⟩
          obtain ⟨l1, hl1⟩ : ∃ z, (boxN m r k).y0 = z := ⟨_, rfl⟩
          obtain ⟨h0, hh0⟩ : ∃ z, (boxN m r k).x1 = z := ⟨_, rfl⟩
          obtain ⟨h1, hh1⟩ : ∃ z, (boxN m r k).y1 = z := ⟨_, rfl⟩
          obtain ⟨e0, he0⟩ : ∃ z, min l0 p = z := ⟨_, rfl⟩
          obtain ⟨e1, he1⟩ : ∃ z, min l1 q = z := ⟨_, rfl⟩
          obtain ⟨g0, hg0⟩ : ∃ z, max h0 p = z := ⟨_, rfl⟩
          obtain ⟨g1, hg1⟩ : ∃ z, max h1 q = z := ⟨_, rfl⟩
          have HN2 := Lib.hid (show boxN m r (k + 1) = ⟨e0, e1, g0, g1⟩ by rw [← he0, ← he1, ← hg0, ← hg1, ← hl0, ← hl1, ← hh0, ← hh1, ← hp, ← hq, ← HXY.out.1, ← HXY.out.2]; rfl)
          have HRB := Lib.hid (show rcC (boxN m r k) = #[.int .i64 l0, .int .i64 l1, .int .i64 h0, .int .i64 h1] by unfold rcC; rw [hl0, hl1, hh0, hh1])
          have m0 := fun ats ty => he0 ▸ min_two l0 p ats ty
          have m1 := fun ats ty => he1 ▸ min_two l1 q ats ty
          have m2 := fun ats ty => hg0 ▸ max_two h0 p ats ty
          have m3 := fun ats ty => hg1 ▸ max_two h1 q ats ty
          rw [hp, hq] at HE5
          rw [HE5.out]
          unfold ptV
          obtain ⟨Y, hY⟩ : ∃ Y, w5.heap.size = Y := ⟨_, rfl⟩
          clear hok hp hq hl0 hl1 hh0 hh1 he0 he1 hg0 hg1 HE5
          go_upto_region 7 with fail
          obtain ⟨w6, hw6⟩ : ∃ w6, w5.alloc (.cells #[.int .i64 p, .int .i64 q] 25) = w6 := ⟨_, rfl⟩
          have HI6 : Hid (BoxAt w N A N X m r k w6) := Lib.hid (by rw [← hw6]; exact HI5.out.keep ((Below.refl _ w5).alloc (Nat.le_refl _) _) (Nat.le_of_lt HI5.out.br.lt))
          have HP6 := Lib.hid (show Blk w6 Y 25 #[.int .i64 p, .int .i64 q] by rw [← hw6, ← hY]; exact Blk.new w5 _ _)
          have HXY2 := Lib.hid (show X ≠ Y by have := HI5.out.bx.lt; omega)
          rw [hw6]
          clear hw6 hY HI5
          have hX6 := HI6.out.bx
          rw [HRB.out] at hX6
          obtain ⟨⟨x0, x1, x2, x3⟩, ⟨f0, f1, f2, f3⟩⟩ := four_cells hX6
          obtain ⟨c0, c1⟩ := two_cells HP6.out
          have hne := HXY2.out
          have hne2 : Y ≠ X := fun e => hne e.symm
          go_region
          clear x0 x1 x2 x3 f0 f1 f2 f3 c0 c1 m0 m1
          go_upto_region 8 with fail
          obtain ⟨w7, hw7⟩ : ∃ w7, ((w6.setCell ⟨X, 0, none⟩ (.int .i64 e0)).setCell ⟨X, 1, none⟩ (.int .i64 e1)).drew = w7 := ⟨_, rfl⟩
          have hbw7 : Below N w w7 := by rw [← hw7]; exact (below_two_sets HI6.out.below HNX.out.1 _ _).drew
          have hba7 : Blk w7 A 23 #[.int .i64 m.a, .int .i64 m.b, .int .i64 m.c, .int .i64 m.d, .int .i64 m.e, .int .i64 m.f] := by rw [← hw7]; exact (HI6.out.ba.far (p := ⟨X, 0, none⟩) HNX.out.2.2 _).far (p := ⟨X, 1, none⟩) HNX.out.2.2 _
          have hbr7 : Blk w7 N 27 #[.int .i64 0, .int .i64 0, .int .i64 0, .int .i64 0] := by rw [← hw7]; exact (HI6.out.br.far (p := ⟨X, 0, none⟩) HNX.out.2.1 _).far (p := ⟨X, 1, none⟩) HNX.out.2.1 _
          have hbx7 : Blk w7 X 27 #[.int .i64 e0, .int .i64 e1, .int .i64 h0, .int .i64 h1] := by rw [← hw7]; exact (hX6.set_ 0 _).set_ 1 _
          have hbp7 : Blk w7 Y 25 #[.int .i64 p, .int .i64 q] := by rw [← hw7]; exact (HP6.out.far (p := ⟨X, 0, none⟩) hne2 _).far (p := ⟨X, 1, none⟩) hne2 _
          rw [hw7]
          have H7 := Lib.hid (And.intro hbw7 (And.intro hba7 (And.intro hbr7 (And.intro hbx7 hbp7))))
          have HO6 := Lib.hid HI6.out.ok
          clear hw7 hbw7 hba7 hbr7 hbx7 hbp7 hX6 HI6 HP6
          obtain ⟨⟨x0, x1, x2, x3⟩, ⟨f0, f1, f2, f3⟩⟩ := four_cells H7.out.2.2.2.1
          obtain ⟨c0, c1⟩ := two_cells H7.out.2.2.2.2
          go_region
          clear x0 x1 x2 x3 f0 f1 f2 f3 c0 c1 m2 m3
          have HN8 : Hid (BoxAt w N A N X m r (k + 1) (((w7.setCell ⟨X, 2, none⟩ (.int .i64 g0)).setCell ⟨X, 3, none⟩ (.int .i64 g1)).drew)) := Lib.hid (by
            obtain ⟨q1, q2, q3, q4, q5⟩ := H7.out
            refine ⟨(q2.far (p := ⟨X, 2, none⟩) HNX.out.2.2 _).far (p := ⟨X, 3, none⟩) HNX.out.2.2 _, (q3.far (p := ⟨X, 2, none⟩) HNX.out.2.1 _).far (p := ⟨X, 3, none⟩) HNX.out.2.1 _, ?_, ((q1.setCell (p := ⟨X, 2, none⟩) HNX.out.1 _).setCell (p := ⟨X, 3, none⟩) HNX.out.1 _).drew, fun j hj => ?_⟩
            · rw [HN2.out]
              exact (q4.set_ 2 _).set_ 3 _
            · by_cases hjk : j < k + 1
              · exact HO6.out j hjk
              · rw [show j = k + 1 by omega]
                exact HOK.out)
          go_wp2_with fail
          go_roundw
          case rel => exact ⟨k + 1, by have := HK.out; omega, by go_num, HN8⟩
          case measure => simp [intOf]; omega
        · have HE5 := Lib.hid (appEnd_no hok)
          have HF := Lib.hid (show boxEnd m r = gUp 2 by unfold boxEnd; rw [boxO_not (k := k + 1) (by have := HK.out; omega) (by rw [HXY.out.1, HXY.out.2]; exact hok)]; rfl)
          rw [HE5.out]
          clear hok
          exact ⟨rfl, HF.out.symm, HI5.out.below⟩
      · obtain rfl : k = 3 := by omega
        have HF := Lib.hid (show boxEnd m r = .returned (rcV (boxN m r 3)) by unfold boxEnd; rw [boxO_at (fun j hj => HI.out.ok j (by omega))]; rfl)
        obtain ⟨q, hq⟩ : ∃ q, boxN m r 3 = q := ⟨_, rfl⟩
        have hX := HI.out.bx
        rw [hq] at hX HF
        obtain ⟨⟨x0, x1, x2, x3⟩, _⟩ := four_cells (show Blk wr X 27 #[.int .i64 q.x0, .int .i64 q.y0, .int .i64 q.x1, .int .i64 q.y1] from hX)
        obtain ⟨⟨d0, d1, d2, d3⟩, ⟨f0, f1, f2, f3⟩⟩ := four_cells HI.out.br
        have HB := Lib.hid HI.out.below
        rw [show ((3 : Nat) : Int) = 3 from rfl]
        clear hlt hk hq hX
        go_wp2_with fail
        exact bodyPost_ret (v := .agg #[.int .i64 q.x0, .int .i64 q.y0, .int .i64 q.x1, .int .i64 q.y1]) (by simp [results, Try.results46, go_sem, d0, d1, d2, d3]) rfl ⟨HF.out.symm, below_four HB.out (Nat.le_refl _) _ _ _ _⟩
  · have HE := Lib.hid (appEnd_no ho)
    have HF := Lib.hid (show boxEnd m r = gUp 2 by unfold boxEnd; rw [boxO_not (k := 0) (by decide) ho]; rfl)
    rw [HE.out]
    clear ho
    exact ⟨rfl, HF.out.symm, HW2.out⟩

theorem enter_box (caps : Array Value) (W : World) : (callFunc 46 caps).run Try.prog W = .ok (.enter 46 caps) W := by
  first | kernel_rfl | rfl
/-- What Box answers: a rectangle and an error. -/
def rcR (r : Rc) (e : Int) : Ending := .returned (.tuple #[rcV r, .int .i64 e])
def boxQ (m : Mx) (r : Rc) : Rc := if boxO m r then boxN m r 3 else ⟨0, 0, 0, 0⟩
def boxX (m : Mx) (r : Rc) : Int := if boxO m r then 0 else 2
set_option maxRecDepth 100000 in
set_option maxHeartbeats 4000000 in
theorem box_rc (m : Mx) (r q : Rc) (x : Int) (w : World) (hq : boxQ m r = q) (hx : boxX m r = x) :
    Calls Try.prog 17 #[mxV m, rcV r] w fun e w' => e = rcR q x ∧ Below w.heap.size w w' := by
  unfold mxV rcR
  have hmf : ∀ (fn : Fn) (first cap : Array Value) (w : World), (Instr.makeFunc fn first cap).run Try.prog w = .ok (.func fn first cap) w := fun _ _ _ _ => rfl
  obtain ⟨N, hN⟩ : ∃ N, w.heap.size = N := ⟨_, rfl⟩
  obtain ⟨V, hV⟩ : ∃ V, ((w.alloc (.cells #[.int .i64 m.a, .int .i64 m.b, .int .i64 m.c, .int .i64 m.d, .int .i64 m.e, .int .i64 m.f] 23)).alloc (.cells #[.int .i64 r.x0, .int .i64 r.y0, .int .i64 r.x1, .int .i64 r.y1] 27)).alloc (.cells #[.int .i64 0, .int .i64 0, .int .i64 0, .int .i64 0] 27) = V := ⟨_, rfl⟩
  have hVs : V.heap.size = N + 3 := by rw [← hV]; simp [hN]
  have bA : Blk V N 23 #[.int .i64 m.a, .int .i64 m.b, .int .i64 m.c, .int .i64 m.d, .int .i64 m.e, .int .i64 m.f] := by
    rw [← hV, ← hN]
    exact ((Blk.new w _ _).alloc _).alloc _
  have bB : Blk V (N + 1) 27 #[.int .i64 r.x0, .int .i64 r.y0, .int .i64 r.x1, .int .i64 r.y1] := by
    rw [← hV]
    have := (Blk.new (w.alloc (.cells #[.int .i64 m.a, .int .i64 m.b, .int .i64 m.c, .int .i64 m.d, .int .i64 m.e, .int .i64 m.f] 23)) 27 #[.int .i64 r.x0, .int .i64 r.y0, .int .i64 r.x1, .int .i64 r.y1]).alloc (.cells #[.int .i64 0, .int .i64 0, .int .i64 0, .int .i64 0] 27)
    rw [World.size_alloc, hN] at this
    exact this
  have bR : Blk V (N + 2) 27 #[.int .i64 0, .int .i64 0, .int .i64 0, .int .i64 0] := by
    rw [← hV]
    have := Blk.new ((w.alloc (.cells #[.int .i64 m.a, .int .i64 m.b, .int .i64 m.c, .int .i64 m.d, .int .i64 m.e, .int .i64 m.f] 23)).alloc (.cells #[.int .i64 r.x0, .int .i64 r.y0, .int .i64 r.x1, .int .i64 r.y1] 27)) 27 #[.int .i64 0, .int .i64 0, .int .i64 0, .int .i64 0]
    rw [World.size_alloc, World.size_alloc, hN] at this
    exact this
  have HBV := Lib.hid (show Below N w V by rw [← hV, ← hN]; exact (((Below.refl _ w).alloc (Nat.le_refl _) _).alloc (by simp) _).alloc (by simp; omega) _)
  have HBR := Lib.hid bR
  have HVs := Lib.hid hVs
  have HCt : Hid (Calls Try.prog 45 #[.func (.func 46) #[] #[.pointer (some ⟨N, 0, none⟩), .pointer (some ⟨N + 1, 0, none⟩)]] V fun e w' => e = rcR q x ∧ Below (N + 3) V w') := Lib.hid (by
    have hwk := box_work N (N + 1) m r ((V.alloc (.cells #[.int .i64 0, .int .i64 0, .int .i64 0, .int .i64 0] 27)).alloc (.cells #[.int .i64 0] 34)) ((bA.alloc _).alloc _) ((bB.alloc _).alloc _)
    have hus : ((V.alloc (.cells #[.int .i64 0, .int .i64 0, .int .i64 0, .int .i64 0] 27)).alloc (.cells #[.int .i64 0] 34)).heap.size = V.heap.size + 2 := by simp
    rw [hus] at hwk
    by_cases ho : boxO m r = true
    · have e1 : boxEnd m r = .returned (rcV q) := by unfold boxEnd; rw [if_pos ho, ← hq]; unfold boxQ; rw [if_pos ho]
      have e2 : x = 0 := by rw [← hx]; unfold boxX; rw [if_pos ho]
      rw [e1] at hwk
      refine (caughtR_ok 46 _ q.x0 q.y0 q.x1 q.y1 V (enter_box _) hwk).mono ?_
      rintro e w' ⟨rfl, hb⟩
      rw [e2]
      exact ⟨rfl, by rw [← hVs]; exact hb⟩
    · have e1 : boxEnd m r = gUp 2 := by unfold boxEnd; rw [if_neg ho]
      have e2 : x = 2 := by rw [← hx]; unfold boxX; rw [if_neg ho]
      have e3 : q = ⟨0, 0, 0, 0⟩ := by rw [← hq]; unfold boxQ; rw [if_neg ho]
      rw [e1] at hwk
      refine (caughtR_no 46 _ 2 V (enter_box _) hwk).mono ?_
      rintro e w' ⟨rfl, hb⟩
      rw [e2, e3]
      exact ⟨rfl, by rw [← hVs]; exact hb⟩)
  rw [hN]
  unfold rcR rcV at HCt
  unfold rcV
  clear bA bB bR hVs hq hx
  go_enter Try.func17, Try.ntmps17
  go_wp2_with fail
  refine HCt.out.mono ?_
  rintro e w' ⟨rfl, hb⟩
  obtain ⟨⟨c0, c1, c2, c3⟩, ⟨f0, f1, f2, f3⟩⟩ := four_cells (HBR.out.below hb (by omega))
  have HB := Lib.hid (HBV.out.trans (hb.mono (by omega)))
  clear hb hV hN
  go_wp2_with fail
  exact bodyPost_ret (v := .tuple #[.agg #[.int .i64 q.x0, .int .i64 q.y0, .int .i64 q.x1, .int .i64 q.y1], .int .i64 x]) (by simp [results, Try.results17, go_sem, c0, c1, c2, c3]) rfl ⟨rfl, below_four HB.out (by omega) _ _ _ _⟩
end Go.Proofs.Ythihmbicalacfaa
