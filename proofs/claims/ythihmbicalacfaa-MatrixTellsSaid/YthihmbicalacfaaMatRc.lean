/-
  matrix, the document's: Apply, Length.
-/
import Derived.Test.YthihmbicalacfaaMatRb
namespace Go.Proofs.Ythihmbicalacfaa
open Go.RowKit Fix Mat

/-- What Apply's walk knows. -/
structure AppAt (w : World) (N B R : Nat) (m : Mx) (x y : Int) (wr : World) : Prop where
  ba : Blk wr N 23 #[.int .i64 m.a, .int .i64 m.b, .int .i64 m.c, .int .i64 m.d, .int .i64 m.e, .int .i64 m.f]
  bp : Blk wr B 25 #[.int .i64 x, .int .i64 y]
  br : Blk wr R 25 #[.int .i64 0, .int .i64 0]
  below : Below N w wr
  ord : N ≤ R
theorem AppAt.keep {w : World} {N B R : Nat} {m : Mx} {x y : Int} {wr w' : World} (h : AppAt w N B R m x y wr) (hb : Below wr.heap.size wr w') : AppAt w N B R m x y w' :=
  ⟨h.ba.below hb h.ba.lt, h.bp.below hb h.bp.lt, h.br.below hb h.br.lt, h.below.trans (hb.mono (Nat.le_of_lt h.ba.lt)), h.ord⟩
theorem AppAt.new {w : World} {N B R : Nat} {m : Mx} {x y : Int} {wr : World} (h : AppAt w N B R m x y wr) (o : Obj) : AppAt w N B R m x y (wr.alloc o) := h.keep ((Below.refl _ wr).alloc (Nat.le_refl _) o)
theorem app_start (w : World) (m : Mx) (x y : Int) : AppAt w w.heap.size (w.heap.size + 1) (w.heap.size + 1 + 1) m x y (((w.alloc (.cells #[.int .i64 m.a, .int .i64 m.b, .int .i64 m.c, .int .i64 m.d, .int .i64 m.e, .int .i64 m.f] 23)).alloc (.cells #[.int .i64 x, .int .i64 y] 25)).alloc (.cells #[.int .i64 0, .int .i64 0] 25)) := by
  refine ⟨((Blk.new w _ _).alloc _).alloc _, ?_, ?_, (((Below.refl _ w).alloc (Nat.le_refl _) _).alloc (by simp) _).alloc (by simp; omega) _, by omega⟩
  · have := (Blk.new (w.alloc (.cells #[.int .i64 m.a, .int .i64 m.b, .int .i64 m.c, .int .i64 m.d, .int .i64 m.e, .int .i64 m.f] 23)) 25 #[.int .i64 x, .int .i64 y]).alloc (.cells #[.int .i64 0, .int .i64 0] 25)
    rw [World.size_alloc] at this
    exact this
  · have := Blk.new ((w.alloc (.cells #[.int .i64 m.a, .int .i64 m.b, .int .i64 m.c, .int .i64 m.d, .int .i64 m.e, .int .i64 m.f] 23)).alloc (.cells #[.int .i64 x, .int .i64 y] 25)) 25 #[.int .i64 0, .int .i64 0]
    rw [World.size_alloc, World.size_alloc] at this
    exact this

set_option maxRecDepth 100000 in
set_option maxHeartbeats 4000000 in
theorem app42_m (m : Mx) (x y : Int) (w : World) (hm : ¬ okM m = true) :
    Calls Try.prog 14 #[mxV m, ptV x y] w fun e w' => e = ptR 0 0 2 ∧ Below w.heap.size w w' := by
  have HC := Lib.hid (chk_no hm)
  clear hm
  unfold ptR mxV ptV
  obtain ⟨N, hN⟩ : ∃ N, w.heap.size = N := ⟨_, rfl⟩
  obtain ⟨B, hB⟩ : ∃ B, N + 1 = B := ⟨_, rfl⟩
  obtain ⟨R, hR⟩ : ∃ R, B + 1 = R := ⟨_, rfl⟩
  obtain ⟨V, hV⟩ : ∃ V, ((w.alloc (.cells #[.int .i64 m.a, .int .i64 m.b, .int .i64 m.c, .int .i64 m.d, .int .i64 m.e, .int .i64 m.f] 23)).alloc (.cells #[.int .i64 x, .int .i64 y] 25)).alloc (.cells #[.int .i64 0, .int .i64 0] 25) = V := ⟨_, rfl⟩
  have HI0 : Hid (AppAt w N B R m x y V) := Lib.hid (by have h := app_start w m x y; rw [hN, hB, hR, hV] at h; exact h)
  rw [hN]
  go_enter Try.func14, Try.ntmps14
  go_upto_region 1 with fail
  clear hV hN hB hR
  obtain ⟨⟨a0, a1, a2, a3, a4, a5⟩, _⟩ := six_cells HI0.out.ba
  go_wp2_with fail
  refine (check42 m V).mono ?_
  rintro e w1 ⟨rfl, hb⟩
  have HI1 := Lib.hid (HI0.out.keep hb)
  clear hb HI0 a0 a1 a2 a3 a4 a5
  rw [HC.out]
  obtain ⟨c0, c1⟩ := two_cells HI1.out.br
  obtain ⟨f0, f1⟩ := two_frozen HI1.out.br
  go_wp2_with fail
  exact bodyPost_ret (v := .tuple #[.agg #[.int .i64 0, .int .i64 0], .int .i64 2]) (by simp [results, Try.results14, go_sem, c0, c1]) rfl ⟨rfl, below_two_sets HI1.out.below HI1.out.ord _ _⟩

set_option maxRecDepth 100000 in
set_option maxHeartbeats 4000000 in
theorem app42_p (m : Mx) (x y : Int) (w : World) (hm : okM m = true) (hxy : ([x, y] : List Int).all inRange = false) :
    Calls Try.prog 14 #[mxV m, ptV x y] w fun e w' => e = ptR 0 0 2 ∧ Below w.heap.size w w' := by
  have HC := Lib.hid (chk_yes hm)
  have HXY := Lib.hid hxy
  clear hm hxy
  unfold ptR mxV ptV
  obtain ⟨N, hN⟩ : ∃ N, w.heap.size = N := ⟨_, rfl⟩
  obtain ⟨B, hB⟩ : ∃ B, N + 1 = B := ⟨_, rfl⟩
  obtain ⟨R, hR⟩ : ∃ R, B + 1 = R := ⟨_, rfl⟩
  obtain ⟨V, hV⟩ : ∃ V, ((w.alloc (.cells #[.int .i64 m.a, .int .i64 m.b, .int .i64 m.c, .int .i64 m.d, .int .i64 m.e, .int .i64 m.f] 23)).alloc (.cells #[.int .i64 x, .int .i64 y] 25)).alloc (.cells #[.int .i64 0, .int .i64 0] 25) = V := ⟨_, rfl⟩
  have HI0 : Hid (AppAt w N B R m x y V) := Lib.hid (by have h := app_start w m x y; rw [hN, hB, hR, hV] at h; exact h)
  rw [hN]
  go_enter Try.func14, Try.ntmps14
  go_upto_region 1 with fail
  clear hV hN hB hR
  obtain ⟨⟨a0, a1, a2, a3, a4, a5⟩, _⟩ := six_cells HI0.out.ba
  go_wp2_with fail
  refine (check42 m V).mono ?_
  rintro e w1 ⟨rfl, hb⟩
  have HI1 := Lib.hid (HI0.out.keep hb)
  clear hb HI0 a0 a1 a2 a3 a4 a5
  rw [HC.out]
  obtain ⟨b0, b1⟩ := two_cells HI1.out.bp
  obtain ⟨G1, hG⟩ : ∃ G, w1.heap.size = G := ⟨_, rfl⟩
  obtain ⟨u1, hu⟩ : ∃ u, w1.alloc (.cells #[.int .i64 x, .int .i64 y] 2) = u := ⟨_, rfl⟩
  have HIu := Lib.hid (show AppAt w N B R m x y u1 by rw [← hu]; exact HI1.out.new _)
  have HRu : Hid (ReadsInts u1 (some ⟨G1, 0, none⟩) [x, y]) := Lib.hid (by rw [← hu, ← hG]; exact reads2 _ _ _ _)
  go_wp2_with fail
  refine (lift2 HRu.out false HXY.out).mono ?_
  rintro e w2 ⟨rfl, hb⟩
  have HI2 := Lib.hid (HIu.out.keep hb)
  clear hb hG hu HRu HIu HI1 b0 b1
  obtain ⟨c0, c1⟩ := two_cells HI2.out.br
  obtain ⟨f0, f1⟩ := two_frozen HI2.out.br
  go_wp2_with fail
  exact bodyPost_ret (v := .tuple #[.agg #[.int .i64 0, .int .i64 0], .int .i64 2]) (by simp [results, Try.results14, go_sem, c0, c1]) rfl ⟨rfl, below_two_sets HI2.out.below HI2.out.ord _ _⟩

set_option maxRecDepth 100000 in
set_option maxHeartbeats 16000000 in
theorem app42_w (m : Mx) (x y n1 n2 e1 e2 u v r : Int) (w : World) (hm : okM m = true) (hxy : ([x, y] : List Int).all inRange = true)
    (hn1 : dotN [x, m.a, y, m.c, m.e, 10000] = n1) (he1 : dotE [x, m.a, y, m.c, m.e, 10000] = e1) (hn2 : dotN [x, m.b, y, m.d, m.f, 10000] = n2) (he2 : dotE [x, m.b, y, m.d, m.f, 10000] = e2)
    (hend : (e1 = 0 ∧ e2 = 0 ∧ ([n1, n2] : List Int).all inRange = true ∧ u = n1 ∧ v = n2 ∧ r = 0) ∨ (e1 = 2 ∧ u = 0 ∧ v = 0 ∧ r = 2) ∨ (e1 = 0 ∧ e2 = 2 ∧ u = 0 ∧ v = 0 ∧ r = 2)) :
    Calls Try.prog 14 #[mxV m, ptV x y] w fun e w' => e = ptR u v r ∧ Below w.heap.size w w' := by
  have HC := Lib.hid (chk_yes hm)
  have HXY := Lib.hid hxy
  have HX := Lib.hid hend
  have HN1 := Lib.hid (And.intro hn1 he1)
  have HN2 := Lib.hid (And.intro hn2 he2)
  clear hm hxy hend hn1 he1 hn2 he2
  unfold ptR mxV ptV
  obtain ⟨N, hN⟩ : ∃ N, w.heap.size = N := ⟨_, rfl⟩
  obtain ⟨B, hB⟩ : ∃ B, N + 1 = B := ⟨_, rfl⟩
  obtain ⟨R, hR⟩ : ∃ R, B + 1 = R := ⟨_, rfl⟩
  obtain ⟨V, hV⟩ : ∃ V, ((w.alloc (.cells #[.int .i64 m.a, .int .i64 m.b, .int .i64 m.c, .int .i64 m.d, .int .i64 m.e, .int .i64 m.f] 23)).alloc (.cells #[.int .i64 x, .int .i64 y] 25)).alloc (.cells #[.int .i64 0, .int .i64 0] 25) = V := ⟨_, rfl⟩
  have HI0 : Hid (AppAt w N B R m x y V) := Lib.hid (by have h := app_start w m x y; rw [hN, hB, hR, hV] at h; exact h)
  rw [hN]
  go_enter Try.func14, Try.ntmps14
  go_upto_region 1 with fail
  clear hV hN hB hR
  obtain ⟨⟨a0, a1, a2, a3, a4, a5⟩, _⟩ := six_cells HI0.out.ba
  go_wp2_with fail
  refine (check42 m V).mono ?_
  rintro e w1 ⟨rfl, hb⟩
  have HI1 := Lib.hid (HI0.out.keep hb)
  clear hb HI0 a0 a1 a2 a3 a4 a5
  rw [HC.out]
  obtain ⟨b0, b1⟩ := two_cells HI1.out.bp
  obtain ⟨G1, hG⟩ : ∃ G, w1.heap.size = G := ⟨_, rfl⟩
  obtain ⟨u1, hu⟩ : ∃ u, w1.alloc (.cells #[.int .i64 x, .int .i64 y] 2) = u := ⟨_, rfl⟩
  have HIu := Lib.hid (show AppAt w N B R m x y u1 by rw [← hu]; exact HI1.out.new _)
  have HRu : Hid (ReadsInts u1 (some ⟨G1, 0, none⟩) [x, y]) := Lib.hid (by rw [← hu, ← hG]; exact reads2 _ _ _ _)
  go_wp2_with fail
  refine (lift2 HRu.out true HXY.out).mono ?_
  rintro e w2 ⟨rfl, hb⟩
  have HI2 := Lib.hid (HIu.out.keep hb)
  clear hb hG hu HRu HIu HI1 b0 b1
  obtain ⟨⟨a0, a1, a2, a3, a4, a5⟩, _⟩ := six_cells HI2.out.ba
  obtain ⟨b0, b1⟩ := two_cells HI2.out.bp
  obtain ⟨G2, hG⟩ : ∃ G, w2.heap.size = G := ⟨_, rfl⟩
  obtain ⟨u2, hu⟩ : ∃ u, w2.alloc (.cells #[.int .i64 x, .int .i64 m.a, .int .i64 y, .int .i64 m.c, .int .i64 m.e, .int .i64 10000] 2) = u := ⟨_, rfl⟩
  have HIu := Lib.hid (show AppAt w N B R m x y u2 by rw [← hu]; exact HI2.out.new _)
  have HRu : Hid (ReadsInts u2 (some ⟨G2, 0, none⟩) [x, m.a, y, m.c, m.e, 10000]) := Lib.hid (by rw [← hu, ← hG]; exact reads6 _ _ _ _ _ _ _ _)
  go_wp2_with fail
  refine (dot6R G2 x m.a y m.c m.e n1 e1 u2 HRu.out HN1.out.1 HN1.out.2).mono ?_
  rintro e w3 ⟨rfl, hb⟩
  have HI3 := Lib.hid (HIu.out.keep hb)
  clear hb hG hu HRu HIu HI2 HN1 a0 a1 a2 a3 a4 a5 b0 b1
  obtain ⟨⟨a0, a1, a2, a3, a4, a5⟩, _⟩ := six_cells HI3.out.ba
  obtain ⟨b0, b1⟩ := two_cells HI3.out.bp
  obtain ⟨G3, hG⟩ : ∃ G, w3.heap.size = G := ⟨_, rfl⟩
  obtain ⟨u3, hu⟩ : ∃ u, w3.alloc (.cells #[.int .i64 x, .int .i64 m.b, .int .i64 y, .int .i64 m.d, .int .i64 m.f, .int .i64 10000] 2) = u := ⟨_, rfl⟩
  have HIu := Lib.hid (show AppAt w N B R m x y u3 by rw [← hu]; exact HI3.out.new _)
  have HRu : Hid (ReadsInts u3 (some ⟨G3, 0, none⟩) [x, m.b, y, m.d, m.f, 10000]) := Lib.hid (by rw [← hu, ← hG]; exact reads6 _ _ _ _ _ _ _ _)
  go_wp2_with fail
  refine (dot6R G3 x m.b y m.d m.f n2 e2 u3 HRu.out HN2.out.1 HN2.out.2).mono ?_
  rintro e w4 ⟨rfl, hb⟩
  have HI4 := Lib.hid (HIu.out.keep hb)
  clear hb hG hu HRu HIu HI3 HN2 a0 a1 a2 a3 a4 a5 b0 b1
  rcases HX.out with ⟨rfl, rfl, hok, rfl, rfl, rfl⟩ | ⟨rfl, rfl, rfl, rfl⟩ | ⟨rfl, rfl, rfl, rfl, rfl⟩
  · have HO := Lib.hid hok
    clear HX hok
    obtain ⟨G4, hG⟩ : ∃ G, w4.heap.size = G := ⟨_, rfl⟩
    obtain ⟨u4, hu⟩ : ∃ U, w4.alloc (.cells #[.int .i64 u, .int .i64 v] 2) = U := ⟨_, rfl⟩
    have HIu := Lib.hid (show AppAt w N B R m x y u4 by rw [← hu]; exact HI4.out.new _)
    have HRu : Hid (ReadsInts u4 (some ⟨G4, 0, none⟩) [u, v]) := Lib.hid (by rw [← hu, ← hG]; exact reads2 _ _ _ _)
    go_wp2_with fail
    refine (lift2 HRu.out true HO.out).mono ?_
    rintro e w5 ⟨rfl, hb⟩
    have HI5 := Lib.hid (HIu.out.keep hb)
    clear hb hG hu HRu HIu HI4
    obtain ⟨c0, c1⟩ := two_cells HI5.out.br
    obtain ⟨f0, f1⟩ := two_frozen HI5.out.br
    go_wp2_with fail
    exact bodyPost_ret (v := .tuple #[.agg #[.int .i64 u, .int .i64 v], .int .i64 0]) (by simp [results, Try.results14, go_sem, c0, c1]) rfl ⟨rfl, below_two_sets HI5.out.below HI5.out.ord _ _⟩
  · clear HX
    obtain ⟨c0, c1⟩ := two_cells HI4.out.br
    obtain ⟨f0, f1⟩ := two_frozen HI4.out.br
    go_wp2_with fail
    exact bodyPost_ret (v := .tuple #[.agg #[.int .i64 0, .int .i64 0], .int .i64 2]) (by simp [results, Try.results14, go_sem, c0, c1]) rfl ⟨rfl, below_two_sets HI4.out.below HI4.out.ord _ _⟩
  · clear HX
    obtain ⟨c0, c1⟩ := two_cells HI4.out.br
    obtain ⟨f0, f1⟩ := two_frozen HI4.out.br
    go_wp2_with fail
    exact bodyPost_ret (v := .tuple #[.agg #[.int .i64 0, .int .i64 0], .int .i64 2]) (by simp [results, Try.results14, go_sem, c0, c1]) rfl ⟨rfl, below_two_sets HI4.out.below HI4.out.ord _ _⟩

theorem two_all (a b : Int) : ([a, b] : List Int).all inRange = (inRange a && inRange b) := by simp only [List.all_cons, List.all_nil, Bool.and_true]
theorem app42 (m : Mx) (x y u v r : Int) (w : World) (hq : appP m x y = (u, v)) (hx : appX m x y = r) :
    Calls Try.prog 14 #[mxV m, ptV x y] w fun e w' => e = ptR u v r ∧ Below w.heap.size w w' := by
  by_cases ho : appO m x y = true
  · have e0 : (appA m x y, appB m x y) = (u, v) := by rw [← hq]; unfold appP; rw [if_pos ho]
    have er : r = 0 := by rw [← hx]; unfold appX; rw [if_pos ho]
    injection e0 with eu ev
    have ho2 := ho
    unfold appO at ho2
    simp only [Bool.and_eq_true] at ho2
    obtain ⟨hm, ⟨⟨h1, h2⟩, h3⟩, h4⟩ := ho2
    have hA := dotA_ok hm (show (inRange x && inRange y && inRange (appA m x y)) = true by rw [h1, h2, h3]; rfl)
    have hB := dotB_ok hm (show (inRange x && inRange y && inRange (appA m x y)) = true by rw [h1, h2, h3]; rfl) h4
    exact app42_w m x y _ _ _ _ u v r w hm (by rw [two_all, h1, h2]; rfl) hA.1 hA.2 hB.1 hB.2 (Or.inl ⟨rfl, rfl, by rw [two_all, h3, h4]; rfl, eu.symm, ev.symm, er⟩)
  · have hof := Bool.eq_false_iff.2 ho
    have e0 : ((0 : Int), (0 : Int)) = (u, v) := by rw [← hq]; unfold appP; rw [if_neg ho]
    have er : r = 2 := by rw [← hx]; unfold appX; rw [if_neg ho]
    injection e0 with eu ev
    subst eu ev er
    by_cases hm : okM m = true
    · by_cases hxy : (inRange x && inRange y) = true
      · by_cases h3 : inRange (appA m x y) = true
        · have h4 : inRange (appB m x y) = false := by
            revert hof
            unfold appO
            rw [hm, hxy, h3]
            simp
          have hA := dotA_ok hm (show (inRange x && inRange y && inRange (appA m x y)) = true by rw [hxy, h3]; rfl)
          have hB := dotB_no h4
          exact app42_w m x y _ _ _ _ 0 0 2 w hm (by rw [two_all, hxy]) hA.1 hA.2 hB.1 hB.2 (Or.inr (Or.inr ⟨rfl, rfl, rfl, rfl, rfl⟩))
        · have hA := dotA_no (show (inRange x && inRange y && inRange (appA m x y)) = false by rw [Bool.eq_false_iff.2 h3, Bool.and_false])
          exact app42_w m x y _ _ _ _ 0 0 2 w hm (by rw [two_all, hxy]) hA.1 hA.2 rfl rfl (Or.inr (Or.inl ⟨rfl, rfl, rfl, rfl⟩))
      · exact app42_p m x y w hm (by rw [two_all]; exact Bool.eq_false_iff.2 hxy)
    · exact app42_m m x y w hm
end Go.Proofs.Ythihmbicalacfaa
