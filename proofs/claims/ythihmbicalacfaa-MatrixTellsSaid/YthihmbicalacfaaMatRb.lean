/-
  matrix, the document's: Mul, Apply.
-/
import Derived.Test.YthihmbicalacfaaMatRa
import Derived.Test.YthihmbicalacfaaMatE
namespace Go.Proofs.Ythihmbicalacfaa
open Go.RowKit Fix Mat

/-- What Mul's walk knows. -/
structure MulAt (w : World) (N B R : Nat) (a b : Mx) (wr : World) : Prop where
  ba : Blk wr N 23 #[.int .i64 a.a, .int .i64 a.b, .int .i64 a.c, .int .i64 a.d, .int .i64 a.e, .int .i64 a.f]
  bb : Blk wr B 23 #[.int .i64 b.a, .int .i64 b.b, .int .i64 b.c, .int .i64 b.d, .int .i64 b.e, .int .i64 b.f]
  br : Blk wr R 23 #[.int .i64 0, .int .i64 0, .int .i64 0, .int .i64 0, .int .i64 0, .int .i64 0]
  below : Below N w wr
  ord : N ≤ R
theorem MulAt.keep {w : World} {N B R : Nat} {a b : Mx} {wr w' : World} (h : MulAt w N B R a b wr) (hb : Below wr.heap.size wr w') : MulAt w N B R a b w' :=
  ⟨h.ba.below hb h.ba.lt, h.bb.below hb h.bb.lt, h.br.below hb h.br.lt, h.below.trans (hb.mono (Nat.le_of_lt h.ba.lt)), h.ord⟩
theorem MulAt.new {w : World} {N B R : Nat} {a b : Mx} {wr : World} (h : MulAt w N B R a b wr) (o : Obj) : MulAt w N B R a b (wr.alloc o) := h.keep ((Below.refl _ wr).alloc (Nat.le_refl _) o)
theorem mul_start (w : World) (a b : Mx) : MulAt w w.heap.size (w.heap.size + 1) (w.heap.size + 1 + 1) a b (((w.alloc (.cells #[.int .i64 a.a, .int .i64 a.b, .int .i64 a.c, .int .i64 a.d, .int .i64 a.e, .int .i64 a.f] 23)).alloc (.cells #[.int .i64 b.a, .int .i64 b.b, .int .i64 b.c, .int .i64 b.d, .int .i64 b.e, .int .i64 b.f] 23)).alloc (.cells #[.int .i64 0, .int .i64 0, .int .i64 0, .int .i64 0, .int .i64 0, .int .i64 0] 23)) := by
  refine ⟨((Blk.new w _ _).alloc _).alloc _, ?_, ?_, (((Below.refl _ w).alloc (Nat.le_refl _) _).alloc (by simp) _).alloc (by simp; omega) _, by omega⟩
  · have := (Blk.new (w.alloc (.cells #[.int .i64 a.a, .int .i64 a.b, .int .i64 a.c, .int .i64 a.d, .int .i64 a.e, .int .i64 a.f] 23)) 23 #[.int .i64 b.a, .int .i64 b.b, .int .i64 b.c, .int .i64 b.d, .int .i64 b.e, .int .i64 b.f]).alloc (.cells #[.int .i64 0, .int .i64 0, .int .i64 0, .int .i64 0, .int .i64 0, .int .i64 0] 23)
    rw [World.size_alloc] at this
    exact this
  · have := Blk.new ((w.alloc (.cells #[.int .i64 a.a, .int .i64 a.b, .int .i64 a.c, .int .i64 a.d, .int .i64 a.e, .int .i64 a.f] 23)).alloc (.cells #[.int .i64 b.a, .int .i64 b.b, .int .i64 b.c, .int .i64 b.d, .int .i64 b.e, .int .i64 b.f] 23)) 23 #[.int .i64 0, .int .i64 0, .int .i64 0, .int .i64 0, .int .i64 0, .int .i64 0]
    rw [World.size_alloc, World.size_alloc] at this
    exact this

set_option maxRecDepth 100000 in
set_option maxHeartbeats 4000000 in
theorem mul42_a (a b : Mx) (w : World) (ha : ¬ okM a = true) :
    Calls Try.prog 12 #[mxV a, mxV b] w fun e w' => e = mxR zeroM 2 ∧ Below w.heap.size w w' := by
  unfold zeroM
  have HC := Lib.hid (chk_no ha)
  clear ha
  unfold mxR mxV
  obtain ⟨N, hN⟩ : ∃ N, w.heap.size = N := ⟨_, rfl⟩
  obtain ⟨B, hB⟩ : ∃ B, N + 1 = B := ⟨_, rfl⟩
  obtain ⟨R, hR⟩ : ∃ R, B + 1 = R := ⟨_, rfl⟩
  obtain ⟨V, hV⟩ : ∃ V, ((w.alloc (.cells #[.int .i64 a.a, .int .i64 a.b, .int .i64 a.c, .int .i64 a.d, .int .i64 a.e, .int .i64 a.f] 23)).alloc (.cells #[.int .i64 b.a, .int .i64 b.b, .int .i64 b.c, .int .i64 b.d, .int .i64 b.e, .int .i64 b.f] 23)).alloc (.cells #[.int .i64 0, .int .i64 0, .int .i64 0, .int .i64 0, .int .i64 0, .int .i64 0] 23) = V := ⟨_, rfl⟩
  have HI0 : Hid (MulAt w N B R a b V) := Lib.hid (by have h := mul_start w a b; rw [hN, hB, hR, hV] at h; exact h)
  rw [hN]
  go_enter Try.func12, Try.ntmps12
  go_upto_region 1 with fail
  clear hV hN hB hR
  obtain ⟨⟨a0, a1, a2, a3, a4, a5⟩, _⟩ := six_cells HI0.out.ba
  go_wp2_with fail
  refine (check42 a V).mono ?_
  rintro e w1 ⟨rfl, hb⟩
  have HI1 := Lib.hid (HI0.out.keep hb)
  clear hb HI0 a0 a1 a2 a3 a4 a5
  rw [HC.out]
  obtain ⟨⟨c0, c1, c2, c3, c4, c5⟩, ⟨f0, f1, f2, f3, f4, f5⟩⟩ := six_cells HI1.out.br
  go_wp2_with fail
  exact bodyPost_ret (v := .tuple #[.agg #[.int .i64 0, .int .i64 0, .int .i64 0, .int .i64 0, .int .i64 0, .int .i64 0], .int .i64 2]) (by simp [results, Try.results12, go_sem, c0, c1, c2, c3, c4, c5]) rfl ⟨rfl, below_six HI1.out.below HI1.out.ord _ _ _ _ _ _⟩

set_option maxRecDepth 100000 in
set_option maxHeartbeats 4000000 in
theorem mul42_b (a b : Mx) (w : World) (ha : okM a = true) (hb : ¬ okM b = true) :
    Calls Try.prog 12 #[mxV a, mxV b] w fun e w' => e = mxR zeroM 2 ∧ Below w.heap.size w w' := by
  unfold zeroM
  have HC := Lib.hid (chk_yes ha)
  have HD := Lib.hid (chk_no hb)
  clear ha hb
  unfold mxR mxV
  obtain ⟨N, hN⟩ : ∃ N, w.heap.size = N := ⟨_, rfl⟩
  obtain ⟨B, hB⟩ : ∃ B, N + 1 = B := ⟨_, rfl⟩
  obtain ⟨R, hR⟩ : ∃ R, B + 1 = R := ⟨_, rfl⟩
  obtain ⟨V, hV⟩ : ∃ V, ((w.alloc (.cells #[.int .i64 a.a, .int .i64 a.b, .int .i64 a.c, .int .i64 a.d, .int .i64 a.e, .int .i64 a.f] 23)).alloc (.cells #[.int .i64 b.a, .int .i64 b.b, .int .i64 b.c, .int .i64 b.d, .int .i64 b.e, .int .i64 b.f] 23)).alloc (.cells #[.int .i64 0, .int .i64 0, .int .i64 0, .int .i64 0, .int .i64 0, .int .i64 0] 23) = V := ⟨_, rfl⟩
  have HI0 : Hid (MulAt w N B R a b V) := Lib.hid (by have h := mul_start w a b; rw [hN, hB, hR, hV] at h; exact h)
  rw [hN]
  go_enter Try.func12, Try.ntmps12
  go_upto_region 1 with fail
  clear hV hN hB hR
  obtain ⟨⟨a0, a1, a2, a3, a4, a5⟩, _⟩ := six_cells HI0.out.ba
  go_wp2_with fail
  refine (check42 a V).mono ?_
  rintro e w1 ⟨rfl, hb⟩
  have HI1 := Lib.hid (HI0.out.keep hb)
  clear hb HI0 a0 a1 a2 a3 a4 a5
  rw [HC.out]
  obtain ⟨⟨b0, b1, b2, b3, b4, b5⟩, _⟩ := six_cells HI1.out.bb
  go_wp2_with fail
  refine (check42 b w1).mono ?_
  rintro e w2 ⟨rfl, hb⟩
  rw [HD.out]
  have HI2 := Lib.hid (HI1.out.keep hb)
  clear hb HI1 b0 b1 b2 b3 b4 b5
  obtain ⟨⟨c0, c1, c2, c3, c4, c5⟩, ⟨f0, f1, f2, f3, f4, f5⟩⟩ := six_cells HI2.out.br
  go_wp2_with fail
  exact bodyPost_ret (v := .tuple #[.agg #[.int .i64 0, .int .i64 0, .int .i64 0, .int .i64 0, .int .i64 0, .int .i64 0], .int .i64 2]) (by simp [results, Try.results12, go_sem, c0, c1, c2, c3, c4, c5]) rfl ⟨rfl, below_six HI2.out.below HI2.out.ord _ _ _ _ _ _⟩

set_option maxRecDepth 100000 in
set_option maxHeartbeats 16000000 in
theorem mul42_w (a b q : Mx) (x n1 n2 n3 n4 n5 n6 e1 e2 e3 e4 e5 e6 : Int) (w : World) (ha : okM a = true) (hb : okM b = true)
    (hn1 : dotN [a.a, b.a, a.b, b.c] = n1) (he1 : dotE [a.a, b.a, a.b, b.c] = e1)
    (hn2 : dotN [a.a, b.b, a.b, b.d] = n2) (he2 : dotE [a.a, b.b, a.b, b.d] = e2)
    (hn3 : dotN [a.c, b.a, a.d, b.c] = n3) (he3 : dotE [a.c, b.a, a.d, b.c] = e3)
    (hn4 : dotN [a.c, b.b, a.d, b.d] = n4) (he4 : dotE [a.c, b.b, a.d, b.d] = e4)
    (hn5 : dotN [a.e, b.a, a.f, b.c, b.e, 10000] = n5) (he5 : dotE [a.e, b.a, a.f, b.c, b.e, 10000] = e5)
    (hn6 : dotN [a.e, b.b, a.f, b.d, b.f, 10000] = n6) (he6 : dotE [a.e, b.b, a.f, b.d, b.f, 10000] = e6)
    (hend : (e1 = 0 ∧ e2 = 0 ∧ e3 = 0 ∧ e4 = 0 ∧ e5 = 0 ∧ e6 = 0 ∧ okM ⟨n1, n2, n3, n4, n5, n6⟩ = true ∧ q = ⟨n1, n2, n3, n4, n5, n6⟩ ∧ x = 0) ∨
      (e1 = 2 ∧ q = ⟨0, 0, 0, 0, 0, 0⟩ ∧ x = 2) ∨
      (e1 = 0 ∧ e2 = 2 ∧ q = ⟨0, 0, 0, 0, 0, 0⟩ ∧ x = 2) ∨
      (e1 = 0 ∧ e2 = 0 ∧ e3 = 2 ∧ q = ⟨0, 0, 0, 0, 0, 0⟩ ∧ x = 2) ∨
      (e1 = 0 ∧ e2 = 0 ∧ e3 = 0 ∧ e4 = 2 ∧ q = ⟨0, 0, 0, 0, 0, 0⟩ ∧ x = 2) ∨
      (e1 = 0 ∧ e2 = 0 ∧ e3 = 0 ∧ e4 = 0 ∧ e5 = 2 ∧ q = ⟨0, 0, 0, 0, 0, 0⟩ ∧ x = 2) ∨
      (e1 = 0 ∧ e2 = 0 ∧ e3 = 0 ∧ e4 = 0 ∧ e5 = 0 ∧ e6 = 2 ∧ q = ⟨0, 0, 0, 0, 0, 0⟩ ∧ x = 2)) :
    Calls Try.prog 12 #[mxV a, mxV b] w fun e w' => e = mxR q x ∧ Below w.heap.size w w' := by
  have HC := Lib.hid (chk_yes ha)
  have HD := Lib.hid (chk_yes hb)
  have HX := Lib.hid hend
  have HN1 := Lib.hid (And.intro hn1 he1)
  have HN2 := Lib.hid (And.intro hn2 he2)
  have HN3 := Lib.hid (And.intro hn3 he3)
  have HN4 := Lib.hid (And.intro hn4 he4)
  have HN5 := Lib.hid (And.intro hn5 he5)
  have HN6 := Lib.hid (And.intro hn6 he6)
  clear ha hb hend hn1 hn2 hn3 hn4 hn5 hn6 he1 he2 he3 he4 he5 he6
  unfold mxR mxV
  obtain ⟨N, hN⟩ : ∃ N, w.heap.size = N := ⟨_, rfl⟩
  obtain ⟨B, hB⟩ : ∃ B, N + 1 = B := ⟨_, rfl⟩
  obtain ⟨R, hR⟩ : ∃ R, B + 1 = R := ⟨_, rfl⟩
  obtain ⟨V, hV⟩ : ∃ V, ((w.alloc (.cells #[.int .i64 a.a, .int .i64 a.b, .int .i64 a.c, .int .i64 a.d, .int .i64 a.e, .int .i64 a.f] 23)).alloc (.cells #[.int .i64 b.a, .int .i64 b.b, .int .i64 b.c, .int .i64 b.d, .int .i64 b.e, .int .i64 b.f] 23)).alloc (.cells #[.int .i64 0, .int .i64 0, .int .i64 0, .int .i64 0, .int .i64 0, .int .i64 0] 23) = V := ⟨_, rfl⟩
  have HI0 : Hid (MulAt w N B R a b V) := Lib.hid (by have h := mul_start w a b; rw [hN, hB, hR, hV] at h; exact h)
  rw [hN]
  go_enter Try.func12, Try.ntmps12
  go_upto_region 1 with fail
  clear hV hN hB hR
  obtain ⟨⟨a0, a1, a2, a3, a4, a5⟩, _⟩ := six_cells HI0.out.ba
  go_wp2_with fail
  refine (check42 a V).mono ?_
  rintro e w1 ⟨rfl, hb⟩
  have HI1 := Lib.hid (HI0.out.keep hb)
  clear hb HI0 a0 a1 a2 a3 a4 a5
  rw [HC.out]
  obtain ⟨⟨b0, b1, b2, b3, b4, b5⟩, _⟩ := six_cells HI1.out.bb
  go_wp2_with fail
  refine (check42 b w1).mono ?_
  rintro e w2 ⟨rfl, hb⟩
  rw [HD.out]
  have HI2 := Lib.hid (HI1.out.keep hb)
  clear hb HI1 b0 b1 b2 b3 b4 b5
  obtain ⟨⟨a0, a1, a2, a3, a4, a5⟩, _⟩ := six_cells HI2.out.ba
  obtain ⟨⟨b0, b1, b2, b3, b4, b5⟩, _⟩ := six_cells HI2.out.bb
  obtain ⟨G2, hG⟩ : ∃ G, w2.heap.size = G := ⟨_, rfl⟩
  obtain ⟨u2, hu⟩ : ∃ u, w2.alloc (.cells #[.int .i64 a.a, .int .i64 b.a, .int .i64 a.b, .int .i64 b.c] 2) = u := ⟨_, rfl⟩
  have HIu := Lib.hid (show MulAt w N B R a b u2 by rw [← hu]; exact HI2.out.new _)
  have HRu : Hid (ReadsInts u2 (some ⟨G2, 0, none⟩) [a.a, b.a, a.b, b.c]) := Lib.hid (by rw [← hu, ← hG]; exact reads4 _ _ _ _ _ _)
  go_wp2_with fail
  refine (dot4R G2 a.a b.a a.b b.c n1 e1 u2 HRu.out HN1.out.1 HN1.out.2).mono ?_
  rintro e w3 ⟨rfl, hb⟩
  have HI3 := Lib.hid (HIu.out.keep hb)
  clear hb hG hu HRu HIu HI2 HN1 a0 a1 a2 a3 a4 a5 b0 b1 b2 b3 b4 b5
  obtain ⟨⟨a0, a1, a2, a3, a4, a5⟩, _⟩ := six_cells HI3.out.ba
  obtain ⟨⟨b0, b1, b2, b3, b4, b5⟩, _⟩ := six_cells HI3.out.bb
  obtain ⟨G3, hG⟩ : ∃ G, w3.heap.size = G := ⟨_, rfl⟩
  obtain ⟨u3, hu⟩ : ∃ u, w3.alloc (.cells #[.int .i64 a.a, .int .i64 b.b, .int .i64 a.b, .int .i64 b.d] 2) = u := ⟨_, rfl⟩
  have HIu := Lib.hid (show MulAt w N B R a b u3 by rw [← hu]; exact HI3.out.new _)
  have HRu : Hid (ReadsInts u3 (some ⟨G3, 0, none⟩) [a.a, b.b, a.b, b.d]) := Lib.hid (by rw [← hu, ← hG]; exact reads4 _ _ _ _ _ _)
  go_wp2_with fail
  refine (dot4R G3 a.a b.b a.b b.d n2 e2 u3 HRu.out HN2.out.1 HN2.out.2).mono ?_
  rintro e w4 ⟨rfl, hb⟩
  have HI4 := Lib.hid (HIu.out.keep hb)
  clear hb hG hu HRu HIu HI3 HN2 a0 a1 a2 a3 a4 a5 b0 b1 b2 b3 b4 b5
  obtain ⟨⟨a0, a1, a2, a3, a4, a5⟩, _⟩ := six_cells HI4.out.ba
  obtain ⟨⟨b0, b1, b2, b3, b4, b5⟩, _⟩ := six_cells HI4.out.bb
  obtain ⟨G4, hG⟩ : ∃ G, w4.heap.size = G := ⟨_, rfl⟩
  obtain ⟨u4, hu⟩ : ∃ u, w4.alloc (.cells #[.int .i64 a.c, .int .i64 b.a, .int .i64 a.d, .int .i64 b.c] 2) = u := ⟨_, rfl⟩
  have HIu := Lib.hid (show MulAt w N B R a b u4 by rw [← hu]; exact HI4.out.new _)
  have HRu : Hid (ReadsInts u4 (some ⟨G4, 0, none⟩) [a.c, b.a, a.d, b.c]) := Lib.hid (by rw [← hu, ← hG]; exact reads4 _ _ _ _ _ _)
  go_wp2_with fail
  refine (dot4R G4 a.c b.a a.d b.c n3 e3 u4 HRu.out HN3.out.1 HN3.out.2).mono ?_
  rintro e w5 ⟨rfl, hb⟩
  have HI5 := Lib.hid (HIu.out.keep hb)
  clear hb hG hu HRu HIu HI4 HN3 a0 a1 a2 a3 a4 a5 b0 b1 b2 b3 b4 b5
  obtain ⟨⟨a0, a1, a2, a3, a4, a5⟩, _⟩ := six_cells HI5.out.ba
  obtain ⟨⟨b0, b1, b2, b3, b4, b5⟩, _⟩ := six_cells HI5.out.bb
  obtain ⟨G5, hG⟩ : ∃ G, w5.heap.size = G := ⟨_, rfl⟩
  obtain ⟨u5, hu⟩ : ∃ u, w5.alloc (.cells #[.int .i64 a.c, .int .i64 b.b, .int .i64 a.d, .int .i64 b.d] 2) = u := ⟨_, rfl⟩
  have HIu := Lib.hid (show MulAt w N B R a b u5 by rw [← hu]; exact HI5.out.new _)
  have HRu : Hid (ReadsInts u5 (some ⟨G5, 0, none⟩) [a.c, b.b, a.d, b.d]) := Lib.hid (by rw [← hu, ← hG]; exact reads4 _ _ _ _ _ _)
  go_wp2_with fail
  refine (dot4R G5 a.c b.b a.d b.d n4 e4 u5 HRu.out HN4.out.1 HN4.out.2).mono ?_
  rintro e w6 ⟨rfl, hb⟩
  have HI6 := Lib.hid (HIu.out.keep hb)
  clear hb hG hu HRu HIu HI5 HN4 a0 a1 a2 a3 a4 a5 b0 b1 b2 b3 b4 b5
  obtain ⟨⟨a0, a1, a2, a3, a4, a5⟩, _⟩ := six_cells HI6.out.ba
  obtain ⟨⟨b0, b1, b2, b3, b4, b5⟩, _⟩ := six_cells HI6.out.bb
  obtain ⟨G6, hG⟩ : ∃ G, w6.heap.size = G := ⟨_, rfl⟩
  obtain ⟨u6, hu⟩ : ∃ u, w6.alloc (.cells #[.int .i64 a.e, .int .i64 b.a, .int .i64 a.f, .int .i64 b.c, .int .i64 b.e, .int .i64 10000] 2) = u := ⟨_, rfl⟩
  have HIu := Lib.hid (show MulAt w N B R a b u6 by rw [← hu]; exact HI6.out.new _)
  have HRu : Hid (ReadsInts u6 (some ⟨G6, 0, none⟩) [a.e, b.a, a.f, b.c, b.e, 10000]) := Lib.hid (by rw [← hu, ← hG]; exact reads6 _ _ _ _ _ _ _ _)
  go_wp2_with fail
  refine (dot6R G6 a.e b.a a.f b.c b.e n5 e5 u6 HRu.out HN5.out.1 HN5.out.2).mono ?_
  rintro e w7 ⟨rfl, hb⟩
  have HI7 := Lib.hid (HIu.out.keep hb)
  clear hb hG hu HRu HIu HI6 HN5 a0 a1 a2 a3 a4 a5 b0 b1 b2 b3 b4 b5
  obtain ⟨⟨a0, a1, a2, a3, a4, a5⟩, _⟩ := six_cells HI7.out.ba
  obtain ⟨⟨b0, b1, b2, b3, b4, b5⟩, _⟩ := six_cells HI7.out.bb
  obtain ⟨G7, hG⟩ : ∃ G, w7.heap.size = G := ⟨_, rfl⟩
  obtain ⟨u7, hu⟩ : ∃ u, w7.alloc (.cells #[.int .i64 a.e, .int .i64 b.b, .int .i64 a.f, .int .i64 b.d, .int .i64 b.f, .int .i64 10000] 2) = u := ⟨_, rfl⟩
  have HIu := Lib.hid (show MulAt w N B R a b u7 by rw [← hu]; exact HI7.out.new _)
  have HRu : Hid (ReadsInts u7 (some ⟨G7, 0, none⟩) [a.e, b.b, a.f, b.d, b.f, 10000]) := Lib.hid (by rw [← hu, ← hG]; exact reads6 _ _ _ _ _ _ _ _)
  go_wp2_with fail
  refine (dot6R G7 a.e b.b a.f b.d b.f n6 e6 u7 HRu.out HN6.out.1 HN6.out.2).mono ?_
  rintro e w8 ⟨rfl, hb⟩
  have HI8 := Lib.hid (HIu.out.keep hb)
  clear hb hG hu HRu HIu HI7 HN6 a0 a1 a2 a3 a4 a5 b0 b1 b2 b3 b4 b5
  rcases HX.out with ⟨rfl, rfl, rfl, rfl, rfl, rfl, hok, rfl, rfl⟩ | ⟨rfl, rfl, rfl⟩ | ⟨rfl, rfl, rfl, rfl⟩ | ⟨rfl, rfl, rfl, rfl, rfl⟩ | ⟨rfl, rfl, rfl, rfl, rfl, rfl⟩ | ⟨rfl, rfl, rfl, rfl, rfl, rfl, rfl⟩ | ⟨rfl, rfl, rfl, rfl, rfl, rfl, rfl, rfl⟩
  · have HO := Lib.hid hok
    clear HX hok
    obtain ⟨G, hG⟩ : ∃ G, w8.heap.size = G := ⟨_, rfl⟩
    obtain ⟨u, hu⟩ : ∃ u, w8.alloc (.cells #[.int .i64 n1, .int .i64 n2, .int .i64 n3, .int .i64 n4, .int .i64 n5, .int .i64 n6] 2) = u := ⟨_, rfl⟩
    have HIu := Lib.hid (show MulAt w N B R a b u by rw [← hu]; exact HI8.out.new _)
    have HRu : Hid (ReadsInts u (some ⟨G, 0, none⟩) [n1, n2, n3, n4, n5, n6]) := Lib.hid (by rw [← hu, ← hG]; exact reads6 _ _ _ _ _ _ _ _)
    go_wp2_with fail
    refine (lift6 HRu.out true ((all_six ⟨n1, n2, n3, n4, n5, n6⟩).trans HO.out)).mono ?_
    rintro e w9 ⟨rfl, hb⟩
    have HI9 := Lib.hid (HIu.out.keep hb)
    clear hb hG hu HRu HIu HI8
    obtain ⟨⟨c0, c1, c2, c3, c4, c5⟩, ⟨f0, f1, f2, f3, f4, f5⟩⟩ := six_cells HI9.out.br
    go_wp2_with fail
    exact bodyPost_ret (v := .tuple #[.agg #[.int .i64 n1, .int .i64 n2, .int .i64 n3, .int .i64 n4, .int .i64 n5, .int .i64 n6], .int .i64 0]) (by simp [results, Try.results12, go_sem, c0, c1, c2, c3, c4, c5]) rfl ⟨rfl, below_six HI9.out.below HI9.out.ord _ _ _ _ _ _⟩
  · clear HX
    obtain ⟨⟨c0, c1, c2, c3, c4, c5⟩, ⟨f0, f1, f2, f3, f4, f5⟩⟩ := six_cells HI8.out.br
    go_wp2_with fail
    exact bodyPost_ret (v := .tuple #[.agg #[.int .i64 0, .int .i64 0, .int .i64 0, .int .i64 0, .int .i64 0, .int .i64 0], .int .i64 2]) (by simp [results, Try.results12, go_sem, c0, c1, c2, c3, c4, c5]) rfl ⟨rfl, below_six HI8.out.below HI8.out.ord _ _ _ _ _ _⟩
  · clear HX
    obtain ⟨⟨c0, c1, c2, c3, c4, c5⟩, ⟨f0, f1, f2, f3, f4, f5⟩⟩ := six_cells HI8.out.br
    go_wp2_with fail
    exact bodyPost_ret (v := .tuple #[.agg #[.int .i64 0, .int .i64 0, .int .i64 0, .int .i64 0, .int .i64 0, .int .i64 0], .int .i64 2]) (by simp [results, Try.results12, go_sem, c0, c1, c2, c3, c4, c5]) rfl ⟨rfl, below_six HI8.out.below HI8.out.ord _ _ _ _ _ _⟩
  · clear HX
    obtain ⟨⟨c0, c1, c2, c3, c4, c5⟩, ⟨f0, f1, f2, f3, f4, f5⟩⟩ := six_cells HI8.out.br
    go_wp2_with fail
    exact bodyPost_ret (v := .tuple #[.agg #[.int .i64 0, .int .i64 0, .int .i64 0, .int .i64 0, .int .i64 0, .int .i64 0], .int .i64 2]) (by simp [results, Try.results12, go_sem, c0, c1, c2, c3, c4, c5]) rfl ⟨rfl, below_six HI8.out.below HI8.out.ord _ _ _ _ _ _⟩
  · clear HX
    obtain ⟨⟨c0, c1, c2, c3, c4, c5⟩, ⟨f0, f1, f2, f3, f4, f5⟩⟩ := six_cells HI8.out.br
    go_wp2_with fail
    exact bodyPost_ret (v := .tuple #[.agg #[.int .i64 0, .int .i64 0, .int .i64 0, .int .i64 0, .int .i64 0, .int .i64 0], .int .i64 2]) (by simp [results, Try.results12, go_sem, c0, c1, c2, c3, c4, c5]) rfl ⟨rfl, below_six HI8.out.below HI8.out.ord _ _ _ _ _ _⟩
  · clear HX
    obtain ⟨⟨c0, c1, c2, c3, c4, c5⟩, ⟨f0, f1, f2, f3, f4, f5⟩⟩ := six_cells HI8.out.br
    go_wp2_with fail
    exact bodyPost_ret (v := .tuple #[.agg #[.int .i64 0, .int .i64 0, .int .i64 0, .int .i64 0, .int .i64 0, .int .i64 0], .int .i64 2]) (by simp [results, Try.results12, go_sem, c0, c1, c2, c3, c4, c5]) rfl ⟨rfl, below_six HI8.out.below HI8.out.ord _ _ _ _ _ _⟩
  · clear HX
    obtain ⟨⟨c0, c1, c2, c3, c4, c5⟩, ⟨f0, f1, f2, f3, f4, f5⟩⟩ := six_cells HI8.out.br
    go_wp2_with fail
    exact bodyPost_ret (v := .tuple #[.agg #[.int .i64 0, .int .i64 0, .int .i64 0, .int .i64 0, .int .i64 0, .int .i64 0], .int .i64 2]) (by simp [results, Try.results12, go_sem, c0, c1, c2, c3, c4, c5]) rfl ⟨rfl, below_six HI8.out.below HI8.out.ord _ _ _ _ _ _⟩

theorem okM_first {p : Mx} (h : okM p = false) : (inRange p.a = false) ∨ (inRange p.a = true ∧ inRange p.b = false) ∨ (inRange p.a = true ∧ inRange p.b = true ∧ inRange p.c = false) ∨
    (inRange p.a = true ∧ inRange p.b = true ∧ inRange p.c = true ∧ inRange p.d = false) ∨ (inRange p.a = true ∧ inRange p.b = true ∧ inRange p.c = true ∧ inRange p.d = true ∧ inRange p.e = false) ∨
    (inRange p.a = true ∧ inRange p.b = true ∧ inRange p.c = true ∧ inRange p.d = true ∧ inRange p.e = true ∧ inRange p.f = false) := by
  revert h
  unfold okM
  cases inRange p.a <;> cases inRange p.b <;> cases inRange p.c <;> cases inRange p.d <;> cases inRange p.e <;> cases inRange p.f <;> simp
theorem mul42 (a b q : Mx) (x : Int) (w : World) (hq : mulQ a b = q) (hx : mulX a b = x) :
    Calls Try.prog 12 #[mxV a, mxV b] w fun e w' => e = mxR q x ∧ Below w.heap.size w w' := by
  by_cases ha : okM a = true
  · by_cases hb : okM b = true
    · obtain ⟨a1, a2, a3, a4, a5, a6⟩ := okM_yes ha
      obtain ⟨b1, b2, b3, b4, b5, b6⟩ := okM_yes hb
      have y1 := fun h => dot4_yes (a := a.a) (b := b.a) (c := a.b) (d := b.c) a1 b1 a2 b3 h
      have y2 := fun h => dot4_yes (a := a.a) (b := b.b) (c := a.b) (d := b.d) a1 b2 a2 b4 h
      have y3 := fun h => dot4_yes (a := a.c) (b := b.a) (c := a.d) (d := b.c) a3 b1 a4 b3 h
      have y4 := fun h => dot4_yes (a := a.c) (b := b.b) (c := a.d) (d := b.d) a3 b2 a4 b4 h
      have y5 := fun h => dot6_yes (a := a.e) (b := b.a) (c := a.f) (d := b.c) (e := b.e) a5 b1 a6 b3 b5 h
      have y6 := fun h => dot6_yes (a := a.e) (b := b.b) (c := a.f) (d := b.d) (e := b.f) a5 b2 a6 b4 b6 h
      by_cases ho : okM (mulM a b) = true
      · have e1 : q = mulM a b := by rw [← hq]; unfold mulQ mulO; rw [ha, hb, ho]; rfl
        have e2 : x = 0 := by rw [← hx]; unfold mulX mulO; rw [ha, hb, ho]; rfl
        obtain ⟨h1, h2, h3, h4, h5, h6⟩ := okM_yes ho
        exact mul42_w a b q x _ _ _ _ _ _ _ _ _ _ _ _ w ha hb (y1 h1).1 (y1 h1).2 (y2 h2).1 (y2 h2).2 (y3 h3).1 (y3 h3).2 (y4 h4).1 (y4 h4).2 (y5 h5).1 (y5 h5).2 (y6 h6).1 (y6 h6).2
          (Or.inl ⟨rfl, rfl, rfl, rfl, rfl, rfl, ho, e1, e2⟩)
      · have hof := Bool.eq_false_iff.2 ho
        have e1 : q = ⟨0, 0, 0, 0, 0, 0⟩ := by rw [← hq]; unfold mulQ mulO; rw [ha, hb, hof]; rfl
        have e2 : x = 2 := by rw [← hx]; unfold mulX mulO; rw [ha, hb, hof]; rfl
        rcases okM_first hof with h1 | ⟨h1, h2⟩ | ⟨h1, h2, h3⟩ | ⟨h1, h2, h3, h4⟩ | ⟨h1, h2, h3, h4, h5⟩ | ⟨h1, h2, h3, h4, h5, h6⟩
        · exact mul42_w a b q x _ _ _ _ _ _ _ _ _ _ _ _ w ha hb (dot4_no (Bool.eq_false_iff.1 h1)).1 (dot4_no (Bool.eq_false_iff.1 h1)).2 rfl rfl rfl rfl rfl rfl rfl rfl rfl rfl
            (Or.inr (Or.inl ⟨rfl, e1, e2⟩))
        · exact mul42_w a b q x _ _ _ _ _ _ _ _ _ _ _ _ w ha hb (y1 h1).1 (y1 h1).2 (dot4_no (Bool.eq_false_iff.1 h2)).1 (dot4_no (Bool.eq_false_iff.1 h2)).2 rfl rfl rfl rfl rfl rfl rfl rfl
            (Or.inr (Or.inr (Or.inl ⟨rfl, rfl, e1, e2⟩)))
        · exact mul42_w a b q x _ _ _ _ _ _ _ _ _ _ _ _ w ha hb (y1 h1).1 (y1 h1).2 (y2 h2).1 (y2 h2).2 (dot4_no (Bool.eq_false_iff.1 h3)).1 (dot4_no (Bool.eq_false_iff.1 h3)).2 rfl rfl rfl rfl rfl rfl
            (Or.inr (Or.inr (Or.inr (Or.inl ⟨rfl, rfl, rfl, e1, e2⟩))))
        · exact mul42_w a b q x _ _ _ _ _ _ _ _ _ _ _ _ w ha hb (y1 h1).1 (y1 h1).2 (y2 h2).1 (y2 h2).2 (y3 h3).1 (y3 h3).2 (dot4_no (Bool.eq_false_iff.1 h4)).1 (dot4_no (Bool.eq_false_iff.1 h4)).2 rfl rfl rfl rfl
            (Or.inr (Or.inr (Or.inr (Or.inr (Or.inl ⟨rfl, rfl, rfl, rfl, e1, e2⟩)))))
        · exact mul42_w a b q x _ _ _ _ _ _ _ _ _ _ _ _ w ha hb (y1 h1).1 (y1 h1).2 (y2 h2).1 (y2 h2).2 (y3 h3).1 (y3 h3).2 (y4 h4).1 (y4 h4).2 (dot6_no (Bool.eq_false_iff.1 h5)).1 (dot6_no (Bool.eq_false_iff.1 h5)).2 rfl rfl
            (Or.inr (Or.inr (Or.inr (Or.inr (Or.inr (Or.inl ⟨rfl, rfl, rfl, rfl, rfl, e1, e2⟩))))))
        · exact mul42_w a b q x _ _ _ _ _ _ _ _ _ _ _ _ w ha hb (y1 h1).1 (y1 h1).2 (y2 h2).1 (y2 h2).2 (y3 h3).1 (y3 h3).2 (y4 h4).1 (y4 h4).2 (y5 h5).1 (y5 h5).2 (dot6_no (Bool.eq_false_iff.1 h6)).1 (dot6_no (Bool.eq_false_iff.1 h6)).2
            (Or.inr (Or.inr (Or.inr (Or.inr (Or.inr (Or.inr (⟨rfl, rfl, rfl, rfl, rfl, rfl, e1, e2⟩)))))))
    · have hbf := Bool.eq_false_iff.2 hb
      have e1 : q = zeroM := by rw [← hq]; unfold mulQ mulO; rw [hbf, Bool.and_false]; rfl
      have e2 : x = 2 := by rw [← hx]; unfold mulX mulO; rw [hbf, Bool.and_false]; rfl
      rw [e1, e2]
      exact mul42_b a b w ha hb
  · have haf := Bool.eq_false_iff.2 ha
    have e1 : q = zeroM := by rw [← hq]; unfold mulQ mulO; rw [haf]; rfl
    have e2 : x = 2 := by rw [← hx]; unfold mulX mulO; rw [haf]; rfl
    rw [e1, e2]
    exact mul42_a a b w ha
end Go.Proofs.Ythihmbicalacfaa
