/-
  matrix, the document's: Box.
-/
import Derived.Test.YthihmbicalacfaaMatRd
import Derived.Test.YthihmbicalacfaaMatF
namespace Go.Proofs.Ythihmbicalacfaa
open Go.RowKit Fix Mat

/-- The box of the first k corners. -/
def boxK (m : Mx) (r : Rc) : Nat → Rc
  | 0 => ⟨0, 0, 0, 0⟩
  | k + 1 => boxN m r k
/-- What Box's walk knows. -/
structure BoxW (w : World) (N R S X : Nat) (m : Mx) (r : Rc) (wr : World) (c : Rc) : Prop where
  ba : Blk wr N 23 #[.int .i64 m.a, .int .i64 m.b, .int .i64 m.c, .int .i64 m.d, .int .i64 m.e, .int .i64 m.f]
  br : Blk wr R 27 #[.int .i64 0, .int .i64 0, .int .i64 0, .int .i64 0]
  bs : Blk wr S 25 #[.int .i64 r.x0, .int .i64 r.y0, .int .i64 r.x1, .int .i64 r.y0, .int .i64 r.x0, .int .i64 r.y1, .int .i64 r.x1, .int .i64 r.y1]
  bx : Blk wr X 27 #[.int .i64 c.x0, .int .i64 c.y0, .int .i64 c.x1, .int .i64 c.y1]
  below : Below N w wr
  ord : N ≤ R ∧ N ≤ X ∧ N ≠ X ∧ R ≠ X ∧ S ≠ X
theorem BoxW.keep {w : World} {N R S X : Nat} {m : Mx} {r c : Rc} {wr w' : World} (h : BoxW w N R S X m r wr c) (hb : Below wr.heap.size wr w') : BoxW w N R S X m r w' c :=
  ⟨h.ba.below hb h.ba.lt, h.br.below hb h.br.lt, h.bs.below hb h.bs.lt, h.bx.below hb h.bx.lt, h.below.trans (hb.mono (Nat.le_of_lt h.ba.lt)), h.ord⟩
theorem BoxW.new {w : World} {N R S X : Nat} {m : Mx} {r c : Rc} {wr : World} (h : BoxW w N R S X m r wr c) (o : Obj) : BoxW w N R S X m r (wr.alloc o) c := h.keep ((Below.refl _ wr).alloc (Nat.le_refl _) o)
theorem BoxW.put {w : World} {N R S X : Nat} {m : Mx} {r c : Rc} {wr : World} (h : BoxW w N R S X m r wr c) (q : Rc) :
    BoxW w N R S X m r ((((wr.setCell ⟨X, 0, none⟩ (.int .i64 q.x0)).setCell ⟨X, 1, none⟩ (.int .i64 q.y0)).setCell ⟨X, 2, none⟩ (.int .i64 q.x1)).setCell ⟨X, 3, none⟩ (.int .i64 q.y1)) q := by
  obtain ⟨o1, o2, o3, o4, o5⟩ := h.ord
  exact ⟨(((h.ba.far (p := ⟨X, 0, none⟩) o3 _).far (p := ⟨X, 1, none⟩) o3 _).far (p := ⟨X, 2, none⟩) o3 _).far (p := ⟨X, 3, none⟩) o3 _,
    (((h.br.far (p := ⟨X, 0, none⟩) o4 _).far (p := ⟨X, 1, none⟩) o4 _).far (p := ⟨X, 2, none⟩) o4 _).far (p := ⟨X, 3, none⟩) o4 _,
    (((h.bs.far (p := ⟨X, 0, none⟩) o5 _).far (p := ⟨X, 1, none⟩) o5 _).far (p := ⟨X, 2, none⟩) o5 _).far (p := ⟨X, 3, none⟩) o5 _,
    (((h.bx.set_ 0 _).set_ 1 _).set_ 2 _).set_ 3 _, below_four h.below o2 _ _ _ _, h.ord⟩
theorem eight_cells {w : World} {g : Nat} {t : TypeId} {v0 v1 v2 v3 v4 v5 v6 v7 : Value} (h : Blk w g t #[v0, v1, v2, v3, v4, v5, v6, v7]) :
    w.cell? ⟨g, 0, none⟩ = some v0 ∧ w.cell? ⟨g, 1, none⟩ = some v1 ∧ w.cell? ⟨g, 2, none⟩ = some v2 ∧ w.cell? ⟨g, 3, none⟩ = some v3 ∧ w.cell? ⟨g, 4, none⟩ = some v4 ∧ w.cell? ⟨g, 5, none⟩ = some v5 ∧ w.cell? ⟨g, 6, none⟩ = some v6 ∧ w.cell? ⟨g, 7, none⟩ = some v7 :=
  ⟨(h.cell 0).trans rfl, (h.cell 1).trans rfl, (h.cell 2).trans rfl, (h.cell 3).trans rfl, (h.cell 4).trans rfl, (h.cell 5).trans rfl, (h.cell 6).trans rfl, (h.cell 7).trans rfl⟩
theorem boxK_next (m : Mx) (r : Rc) (k : Nat) (p q : Int) (hp : appA m (corX r (k + 1)) (corY r (k + 1)) = p) (hq : appB m (corX r (k + 1)) (corY r (k + 1)) = q) : boxK m r (k + 2) = ⟨min (boxK m r (k + 1)).x0 p, min (boxK m r (k + 1)).y0 q, max (boxK m r (k + 1)).x1 p, max (boxK m r (k + 1)).y1 q⟩ := by
  rw [← hp, ← hq]
  rfl
theorem boxK_first (m : Mx) (r : Rc) (p q : Int) (hp : appA m (corX r 0) (corY r 0) = p) (hq : appB m (corX r 0) (corY r 0) = q) : boxK m r 1 = ⟨min p p, min q q, max p p, max q q⟩ := by
  rw [Int.min_self, Int.min_self, Int.max_self, Int.max_self, ← hp, ← hq]
  rfl

set_option maxRecDepth 100000 in
set_option maxHeartbeats 16000000 in
theorem box42 (m : Mx) (r q : Rc) (x : Int) (w : World) (hq : boxQ m r = q) (hx : boxX m r = x) :
    Calls Try.prog 18 #[mxV m, rcV r] w fun e w' => e = rcR q x ∧ Below w.heap.size w w' := by
  have HQX := Lib.hid (And.intro hq hx)
  clear hq hx
  unfold rcR mxV rcV
  obtain ⟨N, hN⟩ : ∃ N, w.heap.size = N := ⟨_, rfl⟩
  obtain ⟨B, hB⟩ : ∃ B, N + 1 = B := ⟨_, rfl⟩
  obtain ⟨R, hR⟩ : ∃ R, B + 1 = R := ⟨_, rfl⟩
  obtain ⟨S, hS⟩ : ∃ S, R + 1 = S := ⟨_, rfl⟩
  obtain ⟨X, hX⟩ : ∃ X, S + 1 = X := ⟨_, rfl⟩
  obtain ⟨V, hV⟩ : ∃ V, ((w.alloc (.cells #[.int .i64 m.a, .int .i64 m.b, .int .i64 m.c, .int .i64 m.d, .int .i64 m.e, .int .i64 m.f] 23)).alloc (.cells #[.int .i64 r.x0, .int .i64 r.y0, .int .i64 r.x1, .int .i64 r.y1] 27)).alloc (.cells #[.int .i64 0, .int .i64 0, .int .i64 0, .int .i64 0] 27) = V := ⟨_, rfl⟩
  have hVs : V.heap.size = S := by rw [← hV]; simp [hN]; omega
  have bA : Blk V N 23 #[.int .i64 m.a, .int .i64 m.b, .int .i64 m.c, .int .i64 m.d, .int .i64 m.e, .int .i64 m.f] := by
    rw [← hV, ← hN]
    exact ((Blk.new w _ _).alloc _).alloc _
  have bB : Blk V B 27 #[.int .i64 r.x0, .int .i64 r.y0, .int .i64 r.x1, .int .i64 r.y1] := by
    rw [← hV]
    have := (Blk.new (w.alloc (.cells #[.int .i64 m.a, .int .i64 m.b, .int .i64 m.c, .int .i64 m.d, .int .i64 m.e, .int .i64 m.f] 23)) 27 #[.int .i64 r.x0, .int .i64 r.y0, .int .i64 r.x1, .int .i64 r.y1]).alloc (.cells #[.int .i64 0, .int .i64 0, .int .i64 0, .int .i64 0] 27)
    rw [World.size_alloc, hN, hB] at this
    exact this
  have bR : Blk V R 27 #[.int .i64 0, .int .i64 0, .int .i64 0, .int .i64 0] := by
    rw [← hV]
    have := Blk.new ((w.alloc (.cells #[.int .i64 m.a, .int .i64 m.b, .int .i64 m.c, .int .i64 m.d, .int .i64 m.e, .int .i64 m.f] 23)).alloc (.cells #[.int .i64 r.x0, .int .i64 r.y0, .int .i64 r.x1, .int .i64 r.y1] 27)) 27 #[.int .i64 0, .int .i64 0, .int .i64 0, .int .i64 0]
    rw [World.size_alloc, World.size_alloc, hN, hB, hR] at this
    exact this
  have HBV := Lib.hid (show Below N w V by rw [← hV, ← hN]; exact (((Below.refl _ w).alloc (Nat.le_refl _) _).alloc (by simp) _).alloc (by simp; omega) _)
  obtain ⟨V1, hV1⟩ : ∃ V1, V.alloc (.cells #[.int .i64 r.x0, .int .i64 r.y0, .int .i64 r.x1, .int .i64 r.y0, .int .i64 r.x0, .int .i64 r.y1, .int .i64 r.x1, .int .i64 r.y1] 25) = V1 := ⟨_, rfl⟩
  obtain ⟨V2, hV2⟩ : ∃ V2, V1.alloc (.cells #[.int .i64 0, .int .i64 0, .int .i64 0, .int .i64 0] 27) = V2 := ⟨_, rfl⟩
  have hV1s : V1.heap.size = X := by rw [← hV1, World.size_alloc, hVs, hX]
  have HI0 : Hid (BoxW w N R S X m r V2 ⟨0, 0, 0, 0⟩) := Lib.hid (by
    refine ⟨?_, ?_, ?_, ?_, ?_, by omega⟩
    · rw [← hV2, ← hV1]; exact (bA.alloc _).alloc _
    · rw [← hV2, ← hV1]; exact (bR.alloc _).alloc _
    · rw [← hV2, ← hV1, ← hVs]; exact (Blk.new V _ _).alloc _
    · rw [← hV2, ← hV1s]; exact Blk.new V1 _ _
    · rw [← hV2, ← hV1]; exact (HBV.out.alloc (by omega) _).alloc (by rw [World.size_alloc]; omega) _)
  obtain ⟨⟨b0, b1, b2, b3⟩, _⟩ := four_cells bB
  rw [hN]
  go_enter Try.func18, Try.ntmps18
  go_upto_region 1 with fail
  go_upto_region 3 with fail
  clear bA bB bR HBV b0 b1 b2 b3 hV hV1 hV2 hVs hV1s hN hB hR hS hX
  go_wp2_with fail
  go_loopw [35] (fun i wr => ∃ k : Nat, k ≤ 4 ∧ i = .int .i64 (k : Int) ∧ Hid (BoxW w N R S X m r wr (boxK m r k)) ∧ Hid (∀ j, j < k → appO m (corX r j) (corY r j) = true)) (fun i _ => 4 - (intOf i).toNat)
  case atStart => exact ⟨0, by omega, rfl, HI0, Lib.hid (fun j hj => absurd hj (Nat.not_lt_zero _))⟩
  case round =>
    clear HI0
    obtain ⟨k, hk, rfl, HI, HO⟩ := hrel
    by_cases hlt : k < 4
    · rcases (show k = 0 ∨ k = 1 ∨ k = 2 ∨ k = 3 by omega) with rfl | rfl | rfl | rfl
      · as_aux_lemma =>
        rw [show ((0 : Nat) : Int) = 0 from rfl]
        clear hlt hk
        obtain ⟨s0, s1, s2, s3, s4, s5, s6, s7⟩ := eight_cells HI.out.bs
        obtain ⟨Z, hZ⟩ : ∃ Z, wr.heap.size = Z := ⟨_, rfl⟩
        obtain ⟨x0, hx0⟩ : ∃ x, r.x0 = x := ⟨_, rfl⟩
        obtain ⟨y0, hy0⟩ : ∃ y, r.y0 = y := ⟨_, rfl⟩
        rw [hx0] at s0
        rw [hy0] at s1
        have HXY := Lib.hid (show corX r 0 = x0 ∧ corY r 0 = y0 from ⟨hx0, hy0⟩)
        clear hx0 hy0
        go_upto_region 6 with fail
        obtain ⟨w4, hw4⟩ : ∃ w4, wr.alloc (.cells #[.int .i64 x0, .int .i64 y0] 25) = w4 := ⟨_, rfl⟩
        have HI4 := Lib.hid (show BoxW w N R S X m r w4 (boxK m r 0) by rw [← hw4]; exact HI.out.new _)
        have HP4 := Lib.hid (show Blk w4 Z 25 #[.int .i64 x0, .int .i64 y0] by rw [← hw4, ← hZ]; exact Blk.new wr _ _)
        rw [hw4]
        clear hw4 hZ HI s0 s1 s2 s3 s4 s5 s6 s7
        obtain ⟨⟨a0, a1, a2, a3, a4, a5⟩, _⟩ := six_cells HI4.out.ba
        obtain ⟨c0, c1⟩ := two_cells HP4.out
        obtain ⟨p, q0, hpq⟩ : ∃ p q, appP m x0 y0 = (p, q) := ⟨_, _, rfl⟩
        by_cases hok : appO m x0 y0 = true
        · have HAp := Lib.hid (app42 m x0 y0 p q0 0 w4 hpq (by unfold appX; rw [if_pos hok]))
          have e0 : (appA m x0 y0, appB m x0 y0) = (p, q0) := by rw [← hpq]; unfold appP; rw [if_pos hok]
          injection e0 with e1 e2
          have HOK := Lib.hid (show appO m (corX r 0) (corY r 0) = true by rw [HXY.out.1, HXY.out.2]; exact hok)
          have HAB := Lib.hid (show appA m (corX r 0) (corY r 0) = p ∧ appB m (corX r 0) (corY r 0) = q0 by rw [HXY.out.1, HXY.out.2]; exact ⟨e1, e2⟩)
          unfold ptR ptV at HAp
          clear hok e1 e2 hpq
          go_wp2_with fail
          refine HAp.out.mono ?_
          rintro e w5 ⟨rfl, hb⟩
          have HI5 := Lib.hid (HI4.out.keep hb)
          clear hb a0 a1 a2 a3 a4 a5 c0 c1 HI4 HP4 HAp
          obtain ⟨Y, hY⟩ : ∃ Y, w5.heap.size = Y := ⟨_, rfl⟩
          go_upto_region 7 with fail
          obtain ⟨w6, hw6⟩ : ∃ w6, w5.alloc (.cells #[.int .i64 p, .int .i64 q0] 25) = w6 := ⟨_, rfl⟩
          have HI6 := Lib.hid (show BoxW w N R S X m r w6 (boxK m r 0) by rw [← hw6]; exact HI5.out.new _)
          have HP6 := Lib.hid (show Blk w6 Y 25 #[.int .i64 p, .int .i64 q0] by rw [← hw6, ← hY]; exact Blk.new w5 _ _)
          have HXY2 := Lib.hid (show Y ≠ X by have := HI5.out.bx.lt; omega)
          rw [hw6]
          clear hw6 hY HI5
          obtain ⟨⟨x0, x1, x2, x3⟩, ⟨f0, f1, f2, f3⟩⟩ := four_cells HI6.out.bx
          obtain ⟨c0, c1⟩ := two_cells HP6.out
          have hne := HXY2.out
          have hne2 : X ≠ Y := fun e => hne e.symm
          go_upto_region 11 with fail
          obtain ⟨w7, hw7⟩ : ∃ w7, (((w6.setCell ⟨X, 0, none⟩ (.int .i64 p)).setCell ⟨X, 1, none⟩ (.int .i64 q0)).setCell ⟨X, 2, none⟩ (.int .i64 p)).setCell ⟨X, 3, none⟩ (.int .i64 q0) = w7 := ⟨_, rfl⟩
          obtain ⟨bk, hbk⟩ : ∃ b : Rc, (⟨p, q0, p, q0⟩ : Rc) = b := ⟨_, rfl⟩
          have HI7 := Lib.hid (show BoxW w N R S X m r w7 bk by rw [← hw7, ← hbk]; exact HI6.out.put ⟨p, q0, p, q0⟩)
          have HP7 := Lib.hid (show Blk w7 Y 25 #[.int .i64 p, .int .i64 q0] by rw [← hw7]; exact (((HP6.out.far (p := ⟨X, 0, none⟩) hne _).far (p := ⟨X, 1, none⟩) hne _).far (p := ⟨X, 2, none⟩) hne _).far (p := ⟨X, 3, none⟩) hne _)
          rw [hw7]
          clear hw7 x0 x1 x2 x3 f0 f1 f2 f3 c0 c1 hne hne2 HI6 HP6
          have HN2 : Hid (boxK m r 1 = ⟨min bk.x0 p, min bk.y0 q0, max bk.x1 p, max bk.y1 q0⟩) := Lib.hid (by rw [← hbk]; exact boxK_first m r p q0 HAB.out.1 HAB.out.2)
          clear hbk
          obtain ⟨l0, l1, h0, h1⟩ := bk
          obtain ⟨e0, he0⟩ : ∃ z, min l0 p = z := ⟨_, rfl⟩
          obtain ⟨e1, he1⟩ : ∃ z, min l1 q0 = z := ⟨_, rfl⟩
          obtain ⟨g0, hg0⟩ : ∃ z, max h0 p = z := ⟨_, rfl⟩
          obtain ⟨g1, hg1⟩ : ∃ z, max h1 q0 = z := ⟨_, rfl⟩
          have m0 := fun ats ty => he0 ▸ min_two l0 p ats ty
          have m1 := fun ats ty => he1 ▸ min_two l1 q0 ats ty
          have m2 := fun ats ty => hg0 ▸ max_two h0 p ats ty
          have m3 := fun ats ty => hg1 ▸ max_two h1 q0 ats ty
          have HN3 : Hid (boxK m r (0 + 1) = ⟨e0, e1, g0, g1⟩) := Lib.hid (by rw [HN2.out, ← he0, ← he1, ← hg0, ← hg1])
          have hX7 : Blk w7 X 27 #[.int .i64 l0, .int .i64 l1, .int .i64 h0, .int .i64 h1] := HI7.out.bx
          obtain ⟨⟨x0, x1, x2, x3⟩, ⟨f0, f1, f2, f3⟩⟩ := four_cells hX7
          obtain ⟨c0, c1⟩ := two_cells HP7.out
          have hne := HXY2.out
          have hne2 : X ≠ Y := fun e => hne e.symm
          have HR : Hid (BoxW w N R S X m r ((((w7.setCell ⟨X, 0, none⟩ (.int .i64 e0)).setCell ⟨X, 1, none⟩ (.int .i64 e1)).setCell ⟨X, 2, none⟩ (.int .i64 g0)).setCell ⟨X, 3, none⟩ (.int .i64 g1)) (boxK m r (0 + 1))) := Lib.hid (by rw [HN3.out]; exact HI7.out.put ⟨e0, e1, g0, g1⟩)
          clear hX7 he0 he1 hg0 hg1 HN2 HN3
          go_wp2_with fail
          go_roundw
          case rel => exact ⟨0 + 1, by omega, by first | rfl | go_num, HR, Lib.hid (fun j hj => by
            by_cases hjk : j < 0
            · exact HO.out j hjk
            · rw [show j = 0 by omega]
              exact HOK.out)⟩
          case measure => simp [intOf]
        · have HAp := Lib.hid (app42 m x0 y0 p q0 2 w4 hpq (by unfold appX; rw [if_neg hok]))
          have HF := Lib.hid (show q = ⟨0, 0, 0, 0⟩ ∧ x = 2 by
            have hno := boxO_not (m := m) (r := r) (k := 0) (by decide) (by rw [HXY.out.1, HXY.out.2]; exact hok)
            rw [← HQX.out.1, ← HQX.out.2]
            unfold boxQ boxX
            rw [hno]
            exact ⟨rfl, rfl⟩)
          obtain ⟨rfl, rfl⟩ := HF.out
          unfold ptR ptV at HAp
          clear hok hpq
          go_wp2_with fail
          refine HAp.out.mono ?_
          rintro e w5 ⟨rfl, hb⟩
          have HI5 := Lib.hid (HI4.out.keep hb)
          clear hb a0 a1 a2 a3 a4 a5 c0 c1 HI4 HP4 HAp
          obtain ⟨Y, hY⟩ : ∃ Y, w5.heap.size = Y := ⟨_, rfl⟩
          go_upto_region 7 with fail
          obtain ⟨w6, hw6⟩ : ∃ w6, w5.alloc (.cells #[.int .i64 p, .int .i64 q0] 25) = w6 := ⟨_, rfl⟩
          have HI6 := Lib.hid (show BoxW w N R S X m r w6 (boxK m r 0) by rw [← hw6]; exact HI5.out.new _)
          rw [hw6]
          clear hw6 hY HI5
          obtain ⟨⟨d0, d1, d2, d3⟩, ⟨f0, f1, f2, f3⟩⟩ := four_cells HI6.out.br
          go_wp2_with fail
          exact bodyPost_ret (v := .tuple #[.agg #[.int .i64 0, .int .i64 0, .int .i64 0, .int .i64 0], .int .i64 2]) (by simp [results, Try.results18, go_sem, d0, d1, d2, d3]) rfl ⟨rfl, below_four HI6.out.below HI6.out.ord.1 _ _ _ _⟩
      · as_aux_lemma =>
        rw [show ((1 : Nat) : Int) = 1 from rfl]
        clear hlt hk
        obtain ⟨s0, s1, s2, s3, s4, s5, s6, s7⟩ := eight_cells HI.out.bs
        obtain ⟨Z, hZ⟩ : ∃ Z, wr.heap.size = Z := ⟨_, rfl⟩
        obtain ⟨x0, hx0⟩ : ∃ x, r.x1 = x := ⟨_, rfl⟩
        obtain ⟨y0, hy0⟩ : ∃ y, r.y0 = y := ⟨_, rfl⟩
        rw [hx0] at s2
        rw [hy0] at s3
        have HXY := Lib.hid (show corX r 1 = x0 ∧ corY r 1 = y0 from ⟨hx0, hy0⟩)
        clear hx0 hy0
        go_upto_region 6 with fail
        obtain ⟨w4, hw4⟩ : ∃ w4, wr.alloc (.cells #[.int .i64 x0, .int .i64 y0] 25) = w4 := ⟨_, rfl⟩
        have HI4 := Lib.hid (show BoxW w N R S X m r w4 (boxK m r 1) by rw [← hw4]; exact HI.out.new _)
        have HP4 := Lib.hid (show Blk w4 Z 25 #[.int .i64 x0, .int .i64 y0] by rw [← hw4, ← hZ]; exact Blk.new wr _ _)
        rw [hw4]
        clear hw4 hZ HI s0 s1 s2 s3 s4 s5 s6 s7
        obtain ⟨⟨a0, a1, a2, a3, a4, a5⟩, _⟩ := six_cells HI4.out.ba
        obtain ⟨c0, c1⟩ := two_cells HP4.out
        obtain ⟨p, q0, hpq⟩ : ∃ p q, appP m x0 y0 = (p, q) := ⟨_, _, rfl⟩
        by_cases hok : appO m x0 y0 = true
        · have HAp := Lib.hid (app42 m x0 y0 p q0 0 w4 hpq (by unfold appX; rw [if_pos hok]))
          have e0 : (appA m x0 y0, appB m x0 y0) = (p, q0) := by rw [← hpq]; unfold appP; rw [if_pos hok]
          injection e0 with e1 e2
          have HOK := Lib.hid (show appO m (corX r 1) (corY r 1) = true by rw [HXY.out.1, HXY.out.2]; exact hok)
          have HAB := Lib.hid (show appA m (corX r 1) (corY r 1) = p ∧ appB m (corX r 1) (corY r 1) = q0 by rw [HXY.out.1, HXY.out.2]; exact ⟨e1, e2⟩)
          unfold ptR ptV at HAp
          clear hok e1 e2 hpq
          go_wp2_with fail
          refine HAp.out.mono ?_
          rintro e w5 ⟨rfl, hb⟩
          have HI5 := Lib.hid (HI4.out.keep hb)
          clear hb a0 a1 a2 a3 a4 a5 c0 c1 HI4 HP4 HAp
          obtain ⟨Y, hY⟩ : ∃ Y, w5.heap.size = Y := ⟨_, rfl⟩
          go_upto_region 7 with fail
          obtain ⟨w6, hw6⟩ : ∃ w6, w5.alloc (.cells #[.int .i64 p, .int .i64 q0] 25) = w6 := ⟨_, rfl⟩
          have HI6 := Lib.hid (show BoxW w N R S X m r w6 (boxK m r 1) by rw [← hw6]; exact HI5.out.new _)
          have HP6 := Lib.hid (show Blk w6 Y 25 #[.int .i64 p, .int .i64 q0] by rw [← hw6, ← hY]; exact Blk.new w5 _ _)
          have HXY2 := Lib.hid (show Y ≠ X by have := HI5.out.bx.lt; omega)
          rw [hw6]
          clear hw6 hY HI5
          go_upto_region 11 with fail
          obtain ⟨w7, hw7⟩ : ∃ w7, w6 = w7 := ⟨_, rfl⟩
          obtain ⟨bk, hbk⟩ : ∃ b : Rc, boxK m r 1 = b := ⟨_, rfl⟩
          have HI7 := Lib.hid (show BoxW w N R S X m r w7 bk by rw [← hw7, ← hbk]; exact HI6.out)
          have HP7 := Lib.hid (show Blk w7 Y 25 #[.int .i64 p, .int .i64 q0] by rw [← hw7]; exact HP6.out)
          rw [hw7]
          clear hw7 HI6 HP6
          have HN2 : Hid (boxK m r (1 + 1) = ⟨min bk.x0 p, min bk.y0 q0, max bk.x1 p, max bk.y1 q0⟩) := Lib.hid (by rw [← hbk]; exact boxK_next m r 0 p q0 HAB.out.1 HAB.out.2)
          clear hbk
          obtain ⟨l0, l1, h0, h1⟩ := bk
          obtain ⟨e0, he0⟩ : ∃ z, min l0 p = z := ⟨_, rfl⟩
          obtain ⟨e1, he1⟩ : ∃ z, min l1 q0 = z := ⟨_, rfl⟩
          obtain ⟨g0, hg0⟩ : ∃ z, max h0 p = z := ⟨_, rfl⟩
          obtain ⟨g1, hg1⟩ : ∃ z, max h1 q0 = z := ⟨_, rfl⟩
          have m0 := fun ats ty => he0 ▸ min_two l0 p ats ty
          have m1 := fun ats ty => he1 ▸ min_two l1 q0 ats ty
          have m2 := fun ats ty => hg0 ▸ max_two h0 p ats ty
          have m3 := fun ats ty => hg1 ▸ max_two h1 q0 ats ty
          have HN3 : Hid (boxK m r (1 + 1) = ⟨e0, e1, g0, g1⟩) := Lib.hid (by rw [HN2.out, ← he0, ← he1, ← hg0, ← hg1])
          have hX7 : Blk w7 X 27 #[.int .i64 l0, .int .i64 l1, .int .i64 h0, .int .i64 h1] := HI7.out.bx
          obtain ⟨⟨x0, x1, x2, x3⟩, ⟨f0, f1, f2, f3⟩⟩ := four_cells hX7
          obtain ⟨c0, c1⟩ := two_cells HP7.out
          have hne := HXY2.out
          have hne2 : X ≠ Y := fun e => hne e.symm
          have HR : Hid (BoxW w N R S X m r ((((w7.setCell ⟨X, 0, none⟩ (.int .i64 e0)).setCell ⟨X, 1, none⟩ (.int .i64 e1)).setCell ⟨X, 2, none⟩ (.int .i64 g0)).setCell ⟨X, 3, none⟩ (.int .i64 g1)) (boxK m r (1 + 1))) := Lib.hid (by rw [HN3.out]; exact HI7.out.put ⟨e0, e1, g0, g1⟩)
          clear hX7 he0 he1 hg0 hg1 HN2 HN3
          go_wp2_with fail
          go_roundw
          case rel => exact ⟨1 + 1, by omega, by first | rfl | go_num, HR, Lib.hid (fun j hj => by
            by_cases hjk : j < 1
            · exact HO.out j hjk
            · rw [show j = 1 by omega]
              exact HOK.out)⟩
          case measure => simp [intOf]
        · have HAp := Lib.hid (app42 m x0 y0 p q0 2 w4 hpq (by unfold appX; rw [if_neg hok]))
          have HF := Lib.hid (show q = ⟨0, 0, 0, 0⟩ ∧ x = 2 by
            have hno := boxO_not (m := m) (r := r) (k := 1) (by decide) (by rw [HXY.out.1, HXY.out.2]; exact hok)
            rw [← HQX.out.1, ← HQX.out.2]
            unfold boxQ boxX
            rw [hno]
            exact ⟨rfl, rfl⟩)
          obtain ⟨rfl, rfl⟩ := HF.out
          unfold ptR ptV at HAp
          clear hok hpq
          go_wp2_with fail
          refine HAp.out.mono ?_
          rintro e w5 ⟨rfl, hb⟩
          have HI5 := Lib.hid (HI4.out.keep hb)
          clear hb a0 a1 a2 a3 a4 a5 c0 c1 HI4 HP4 HAp
          obtain ⟨Y, hY⟩ : ∃ Y, w5.heap.size = Y := ⟨_, rfl⟩
          go_upto_region 7 with fail
          obtain ⟨w6, hw6⟩ : ∃ w6, w5.alloc (.cells #[.int .i64 p, .int .i64 q0] 25) = w6 := ⟨_, rfl⟩
          have HI6 := Lib.hid (show BoxW w N R S X m r w6 (boxK m r 1) by rw [← hw6]; exact HI5.out.new _)
          rw [hw6]
          clear hw6 hY HI5
          obtain ⟨⟨d0, d1, d2, d3⟩, ⟨f0, f1, f2, f3⟩⟩ := four_cells HI6.out.br
          go_wp2_with fail
          exact bodyPost_ret (v := .tuple #[.agg #[.int .i64 0, .int .i64 0, .int .i64 0, .int .i64 0], .int .i64 2]) (by simp [results, Try.results18, go_sem, d0, d1, d2, d3]) rfl ⟨rfl, below_four HI6.out.below HI6.out.ord.1 _ _ _ _⟩
      · as_aux_lemma =>
        rw [show ((2 : Nat) : Int) = 2 from rfl]
        clear hlt hk
        obtain ⟨s0, s1, s2, s3, s4, s5, s6, s7⟩ := eight_cells HI.out.bs
        obtain ⟨Z, hZ⟩ : ∃ Z, wr.heap.size = Z := ⟨_, rfl⟩
        obtain ⟨x0, hx0⟩ : ∃ x, r.x0 = x := ⟨_, rfl⟩
        obtain ⟨y0, hy0⟩ : ∃ y, r.y1 = y := ⟨_, rfl⟩
        rw [hx0] at s4
        rw [hy0] at s5
        have HXY := Lib.hid (show corX r 2 = x0 ∧ corY r 2 = y0 from ⟨hx0, hy0⟩)
        clear hx0 hy0
        go_upto_region 6 with fail
        obtain ⟨w4, hw4⟩ : ∃ w4, wr.alloc (.cells #[.int .i64 x0, .int .i64 y0] 25) = w4 := ⟨_, rfl⟩
        have HI4 := Lib.hid (show BoxW w N R S X m r w4 (boxK m r 2) by rw [← hw4]; exact HI.out.new _)
        have HP4 := Lib.hid (show Blk w4 Z 25 #[.int .i64 x0, .int .i64 y0] by rw [← hw4, ← hZ]; exact Blk.new wr _ _)
        rw [hw4]
        clear hw4 hZ HI s0 s1 s2 s3 s4 s5 s6 s7
        obtain ⟨⟨a0, a1, a2, a3, a4, a5⟩, _⟩ := six_cells HI4.out.ba
        obtain ⟨c0, c1⟩ := two_cells HP4.out
        obtain ⟨p, q0, hpq⟩ : ∃ p q, appP m x0 y0 = (p, q) := ⟨_, _, rfl⟩
        by_cases hok : appO m x0 y0 = true
        · have HAp := Lib.hid (app42 m x0 y0 p q0 0 w4 hpq (by unfold appX; rw [if_pos hok]))
          have e0 : (appA m x0 y0, appB m x0 y0) = (p, q0) := by rw [← hpq]; unfold appP; rw [if_pos hok]
          injection e0 with e1 e2
          have HOK := Lib.hid (show appO m (corX r 2) (corY r 2) = true by rw [HXY.out.1, HXY.out.2]; exact hok)
          have HAB := Lib.hid (show appA m (corX r 2) (corY r 2) = p ∧ appB m (corX r 2) (corY r 2) = q0 by rw [HXY.out.1, HXY.out.2]; exact ⟨e1, e2⟩)
          unfold ptR ptV at HAp
          clear hok e1 e2 hpq
          go_wp2_with fail
          refine HAp.out.mono ?_
          rintro e w5 ⟨rfl, hb⟩
          have HI5 := Lib.hid (HI4.out.keep hb)
          clear hb a0 a1 a2 a3 a4 a5 c0 c1 HI4 HP4 HAp
          obtain ⟨Y, hY⟩ : ∃ Y, w5.heap.size = Y := ⟨_, rfl⟩
          go_upto_region 7 with fail
          obtain ⟨w6, hw6⟩ : ∃ w6, w5.alloc (.cells #[.int .i64 p, .int .i64 q0] 25) = w6 := ⟨_, rfl⟩
          have HI6 := Lib.hid (show BoxW w N R S X m r w6 (boxK m r 2) by rw [← hw6]; exact HI5.out.new _)
          have HP6 := Lib.hid (show Blk w6 Y 25 #[.int .i64 p, .int .i64 q0] by rw [← hw6, ← hY]; exact Blk.new w5 _ _)
          have HXY2 := Lib.hid (show Y ≠ X by have := HI5.out.bx.lt; omega)
          rw [hw6]
          clear hw6 hY HI5
          go_upto_region 11 with fail
          obtain ⟨w7, hw7⟩ : ∃ w7, w6 = w7 := ⟨_, rfl⟩
          obtain ⟨bk, hbk⟩ : ∃ b : Rc, boxK m r 2 = b := ⟨_, rfl⟩
          have HI7 := Lib.hid (show BoxW w N R S X m r w7 bk by rw [← hw7, ← hbk]; exact HI6.out)
          have HP7 := Lib.hid (show Blk w7 Y 25 #[.int .i64 p, .int .i64 q0] by rw [← hw7]; exact HP6.out)
          rw [hw7]
          clear hw7 HI6 HP6
          have HN2 : Hid (boxK m r (2 + 1) = ⟨min bk.x0 p, min bk.y0 q0, max bk.x1 p, max bk.y1 q0⟩) := Lib.hid (by rw [← hbk]; exact boxK_next m r 1 p q0 HAB.out.1 HAB.out.2)
          clear hbk
          obtain ⟨l0, l1, h0, h1⟩ := bk
          obtain ⟨e0, he0⟩ : ∃ z, min l0 p = z := ⟨_, rfl⟩
          obtain ⟨e1, he1⟩ : ∃ z, min l1 q0 = z := ⟨_, rfl⟩
          obtain ⟨g0, hg0⟩ : ∃ z, max h0 p = z := ⟨_, rfl⟩
          obtain ⟨g1, hg1⟩ : ∃ z, max h1 q0 = z := ⟨_, rfl⟩
          have m0 := fun ats ty => he0 ▸ min_two l0 p ats ty
          have m1 := fun ats ty => he1 ▸ min_two l1 q0 ats ty
          have m2 := fun ats ty => hg0 ▸ max_two h0 p ats ty
          have m3 := fun ats ty => hg1 ▸ max_two h1 q0 ats ty
          have HN3 : Hid (boxK m r (2 + 1) = ⟨e0, e1, g0, g1⟩) := Lib.hid (by rw [HN2.out, ← he0, ← he1, ← hg0, ← hg1])
          have hX7 : Blk w7 X 27 #[.int .i64 l0, .int .i64 l1, .int .i64 h0, .int .i64 h1] := HI7.out.bx
          obtain ⟨⟨x0, x1, x2, x3⟩, ⟨f0, f1, f2, f3⟩⟩ := four_cells hX7
          obtain ⟨c0, c1⟩ := two_cells HP7.out
          have hne := HXY2.out
          have hne2 : X ≠ Y := fun e => hne e.symm
          have HR : Hid (BoxW w N R S X m r ((((w7.setCell ⟨X, 0, none⟩ (.int .i64 e0)).setCell ⟨X, 1, none⟩ (.int .i64 e1)).setCell ⟨X, 2, none⟩ (.int .i64 g0)).setCell ⟨X, 3, none⟩ (.int .i64 g1)) (boxK m r (2 + 1))) := Lib.hid (by rw [HN3.out]; exact HI7.out.put ⟨e0, e1, g0, g1⟩)
          clear hX7 he0 he1 hg0 hg1 HN2 HN3
          go_wp2_with fail
          go_roundw
          case rel => exact ⟨2 + 1, by omega, by first | rfl | go_num, HR, Lib.hid (fun j hj => by
            by_cases hjk : j < 2
            · exact HO.out j hjk
            · rw [show j = 2 by omega]
              exact HOK.out)⟩
          case measure => simp [intOf]
        · have HAp := Lib.hid (app42 m x0 y0 p q0 2 w4 hpq (by unfold appX; rw [if_neg hok]))
          have HF := Lib.hid (show q = ⟨0, 0, 0, 0⟩ ∧ x = 2 by
            have hno := boxO_not (m := m) (r := r) (k := 2) (by decide) (by rw [HXY.out.1, HXY.out.2]; exact hok)
            rw [← HQX.out.1, ← HQX.out.2]
            unfold boxQ boxX
            rw [hno]
            exact ⟨rfl, rfl⟩)
          obtain ⟨rfl, rfl⟩ := HF.out
          unfold ptR ptV at HAp
          clear hok hpq
          go_wp2_with fail
          refine HAp.out.mono ?_
          rintro e w5 ⟨rfl, hb⟩
          have HI5 := Lib.hid (HI4.out.keep hb)
          clear hb a0 a1 a2 a3 a4 a5 c0 c1 HI4 HP4 HAp
          obtain ⟨Y, hY⟩ : ∃ Y, w5.heap.size = Y := ⟨_, rfl⟩
          go_upto_region 7 with fail
          obtain ⟨w6, hw6⟩ : ∃ w6, w5.alloc (.cells #[.int .i64 p, .int .i64 q0] 25) = w6 := ⟨_, rfl⟩
          have HI6 := Lib.hid (show BoxW w N R S X m r w6 (boxK m r 2) by rw [← hw6]; exact HI5.out.new _)
          rw [hw6]
          clear hw6 hY HI5
          obtain ⟨⟨d0, d1, d2, d3⟩, ⟨f0, f1, f2, f3⟩⟩ := four_cells HI6.out.br
          go_wp2_with fail
          exact bodyPost_ret (v := .tuple #[.agg #[.int .i64 0, .int .i64 0, .int .i64 0, .int .i64 0], .int .i64 2]) (by simp [results, Try.results18, go_sem, d0, d1, d2, d3]) rfl ⟨rfl, below_four HI6.out.below HI6.out.ord.1 _ _ _ _⟩
      · as_aux_lemma =>
        rw [show ((3 : Nat) : Int) = 3 from rfl]
        clear hlt hk
        obtain ⟨s0, s1, s2, s3, s4, s5, s6, s7⟩ := eight_cells HI.out.bs
        obtain ⟨Z, hZ⟩ : ∃ Z, wr.heap.size = Z := ⟨_, rfl⟩
        obtain ⟨x0, hx0⟩ : ∃ x, r.x1 = x := ⟨_, rfl⟩
        obtain ⟨y0, hy0⟩ : ∃ y, r.y1 = y := ⟨_, rfl⟩
        rw [hx0] at s6
        rw [hy0] at s7
        have HXY := Lib.hid (show corX r 3 = x0 ∧ corY r 3 = y0 from ⟨hx0, hy0⟩)
        clear hx0 hy0
        go_upto_region 6 with fail
        obtain ⟨w4, hw4⟩ : ∃ w4, wr.alloc (.cells #[.int .i64 x0, .int .i64 y0] 25) = w4 := ⟨_, rfl⟩
        have HI4 := Lib.hid (show BoxW w N R S X m r w4 (boxK m r 3) by rw [← hw4]; exact HI.out.new _)
        have HP4 := Lib.hid (show Blk w4 Z 25 #[.int .i64 x0, .int .i64 y0] by rw [← hw4, ← hZ]; exact Blk.new wr _ _)
        rw [hw4]
        clear hw4 hZ HI s0 s1 s2 s3 s4 s5 s6 s7
        obtain ⟨⟨a0, a1, a2, a3, a4, a5⟩, _⟩ := six_cells HI4.out.ba
        obtain ⟨c0, c1⟩ := two_cells HP4.out
        obtain ⟨p, q0, hpq⟩ : ∃ p q, appP m x0 y0 = (p, q) := ⟨_, _, rfl⟩
        by_cases hok : appO m x0 y0 = true
        · have HAp := Lib.hid (app42 m x0 y0 p q0 0 w4 hpq (by unfold appX; rw [if_pos hok]))
          have e0 : (appA m x0 y0, appB m x0 y0) = (p, q0) := by rw [← hpq]; unfold appP; rw [if_pos hok]
          injection e0 with e1 e2
          have HOK := Lib.hid (show appO m (corX r 3) (corY r 3) = true by rw [HXY.out.1, HXY.out.2]; exact hok)
          have HAB := Lib.hid (show appA m (corX r 3) (corY r 3) = p ∧ appB m (corX r 3) (corY r 3) = q0 by rw [HXY.out.1, HXY.out.2]; exact ⟨e1, e2⟩)
          unfold ptR ptV at HAp
          clear hok e1 e2 hpq
          go_wp2_with fail
          refine HAp.out.mono ?_
          rintro e w5 ⟨rfl, hb⟩
          have HI5 := Lib.hid (HI4.out.keep hb)
          clear hb a0 a1 a2 a3 a4 a5 c0 c1 HI4 HP4 HAp
          obtain ⟨Y, hY⟩ : ∃ Y, w5.heap.size = Y := ⟨_, rfl⟩
          go_upto_region 7 with fail
          obtain ⟨w6, hw6⟩ : ∃ w6, w5.alloc (.cells #[.int .i64 p, .int .i64 q0] 25) = w6 := ⟨_, rfl⟩
          have HI6 := Lib.hid (show BoxW w N R S X m r w6 (boxK m r 3) by rw [← hw6]; exact HI5.out.new _)
          have HP6 := Lib.hid (show Blk w6 Y 25 #[.int .i64 p, .int .i64 q0] by rw [← hw6, ← hY]; exact Blk.new w5 _ _)
          have HXY2 := Lib.hid (show Y ≠ X by have := HI5.out.bx.lt; omega)
          rw [hw6]
          clear hw6 hY HI5
          go_upto_region 11 with fail
          obtain ⟨w7, hw7⟩ : ∃ w7, w6 = w7 := ⟨_, rfl⟩
          obtain ⟨bk, hbk⟩ : ∃ b : Rc, boxK m r 3 = b := ⟨_, rfl⟩
          have HI7 := Lib.hid (show BoxW w N R S X m r w7 bk by rw [← hw7, ← hbk]; exact HI6.out)
          have HP7 := Lib.hid (show Blk w7 Y 25 #[.int .i64 p, .int .i64 q0] by rw [← hw7]; exact HP6.out)
          rw [hw7]
          clear hw7 HI6 HP6
          have HN2 : Hid (boxK m r (3 + 1) = ⟨min bk.x0 p, min bk.y0 q0, max bk.x1 p, max bk.y1 q0⟩) := Lib.hid (by rw [← hbk]; exact boxK_next m r 2 p q0 HAB.out.1 HAB.out.2)
          clear hbk
          obtain ⟨l0, l1, h0, h1⟩ := bk
          obtain ⟨e0, he0⟩ : ∃ z, min l0 p = z := ⟨_, rfl⟩
          obtain ⟨e1, he1⟩ : ∃ z, min l1 q0 = z := ⟨_, rfl⟩
          obtain ⟨g0, hg0⟩ : ∃ z, max h0 p = z := ⟨_, rfl⟩
          obtain ⟨g1, hg1⟩ : ∃ z, max h1 q0 = z := ⟨_, rfl⟩
          have m0 := fun ats ty => he0 ▸ min_two l0 p ats ty
          have m1 := fun ats ty => he1 ▸ min_two l1 q0 ats ty
          have m2 := fun ats ty => hg0 ▸ max_two h0 p ats ty
          have m3 := fun ats ty => hg1 ▸ max_two h1 q0 ats ty
          have HN3 : Hid (boxK m r (3 + 1) = ⟨e0, e1, g0, g1⟩) := Lib.hid (by rw [HN2.out, ← he0, ← he1, ← hg0, ← hg1])
          have hX7 : Blk w7 X 27 #[.int .i64 l0, .int .i64 l1, .int .i64 h0, .int .i64 h1] := HI7.out.bx
          obtain ⟨⟨x0, x1, x2, x3⟩, ⟨f0, f1, f2, f3⟩⟩ := four_cells hX7
          obtain ⟨c0, c1⟩ := two_cells HP7.out
          have hne := HXY2.out
          have hne2 : X ≠ Y := fun e => hne e.symm
          have HR : Hid (BoxW w N R S X m r ((((w7.setCell ⟨X, 0, none⟩ (.int .i64 e0)).setCell ⟨X, 1, none⟩ (.int .i64 e1)).setCell ⟨X, 2, none⟩ (.int .i64 g0)).setCell ⟨X, 3, none⟩ (.int .i64 g1)) (boxK m r (3 + 1))) := Lib.hid (by rw [HN3.out]; exact HI7.out.put ⟨e0, e1, g0, g1⟩)
          clear hX7 he0 he1 hg0 hg1 HN2 HN3
          go_wp2_with fail
          go_roundw
          case rel => exact ⟨3 + 1, by omega, by first | rfl | go_num, HR, Lib.hid (fun j hj => by
            by_cases hjk : j < 3
            · exact HO.out j hjk
            · rw [show j = 3 by omega]
              exact HOK.out)⟩
          case measure => simp [intOf]
        · have HAp := Lib.hid (app42 m x0 y0 p q0 2 w4 hpq (by unfold appX; rw [if_neg hok]))
          have HF := Lib.hid (show q = ⟨0, 0, 0, 0⟩ ∧ x = 2 by
            have hno := boxO_not (m := m) (r := r) (k := 3) (by decide) (by rw [HXY.out.1, HXY.out.2]; exact hok)
            rw [← HQX.out.1, ← HQX.out.2]
            unfold boxQ boxX
            rw [hno]
            exact ⟨rfl, rfl⟩)
          obtain ⟨rfl, rfl⟩ := HF.out
          unfold ptR ptV at HAp
          clear hok hpq
          go_wp2_with fail
          refine HAp.out.mono ?_
          rintro e w5 ⟨rfl, hb⟩
          have HI5 := Lib.hid (HI4.out.keep hb)
          clear hb a0 a1 a2 a3 a4 a5 c0 c1 HI4 HP4 HAp
          obtain ⟨Y, hY⟩ : ∃ Y, w5.heap.size = Y := ⟨_, rfl⟩
          go_upto_region 7 with fail
          obtain ⟨w6, hw6⟩ : ∃ w6, w5.alloc (.cells #[.int .i64 p, .int .i64 q0] 25) = w6 := ⟨_, rfl⟩
          have HI6 := Lib.hid (show BoxW w N R S X m r w6 (boxK m r 3) by rw [← hw6]; exact HI5.out.new _)
          rw [hw6]
          clear hw6 hY HI5
          obtain ⟨⟨d0, d1, d2, d3⟩, ⟨f0, f1, f2, f3⟩⟩ := four_cells HI6.out.br
          go_wp2_with fail
          exact bodyPost_ret (v := .tuple #[.agg #[.int .i64 0, .int .i64 0, .int .i64 0, .int .i64 0], .int .i64 2]) (by simp [results, Try.results18, go_sem, d0, d1, d2, d3]) rfl ⟨rfl, below_four HI6.out.below HI6.out.ord.1 _ _ _ _⟩
    · obtain rfl : k = 4 := by omega
      have HF := Lib.hid (show q = boxN m r 3 ∧ x = 0 by
        have hyes := boxO_at (m := m) (r := r) HO.out
        rw [← HQX.out.1, ← HQX.out.2]
        unfold boxQ boxX
        rw [hyes]
        exact ⟨rfl, rfl⟩)
      obtain ⟨hqb, rfl⟩ := HF.out
      have HI9 := Lib.hid (show BoxW w N R S X m r wr q by rw [hqb]; exact HI.out)
      clear HI HO HF hqb hlt hk
      obtain ⟨⟨x0, x1, x2, x3⟩, _⟩ := four_cells HI9.out.bx
      obtain ⟨⟨d0, d1, d2, d3⟩, ⟨f0, f1, f2, f3⟩⟩ := four_cells HI9.out.br
      rw [show ((4 : Nat) : Int) = 4 from rfl]
      go_wp2_with fail
      exact bodyPost_ret (v := .tuple #[.agg #[.int .i64 q.x0, .int .i64 q.y0, .int .i64 q.x1, .int .i64 q.y1], .int .i64 0]) (by simp [results, Try.results18, go_sem, d0, d1, d2, d3]) rfl ⟨rfl, below_four HI9.out.below HI9.out.ord.1 _ _ _ _⟩
end Go.Proofs.Ythihmbicalacfaa
