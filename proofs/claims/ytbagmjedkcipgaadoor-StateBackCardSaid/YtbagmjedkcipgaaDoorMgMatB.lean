/-
  matrix: product: six sums of products, each rounded; it gives up with ErrRange at the first that is out of range.
-/
import Derived.Test.YtbagmjedkcipgaaDoorMgMatA
import Derived.Test.YtbagmjedkcipgaaDoorMgFixM
import Derived.Deep.AppendLies
namespace Go.Proofs.YtbagmjedkcipgaaDoor
open Go.RowKit Fix Mat

theorem dotK4 (a b c d : Int) : dotK [a, b, c, d] (([a, b, c, d] : List Int).length / 2) = a * b + c * d := by
  rw [show ([a, b, c, d] : List Int).length / 2 = 2 by simp]
  simp [dotK]
theorem dotK6 (a b c d e f : Int) : dotK [a, b, c, d, e, f] (([a, b, c, d, e, f] : List Int).length / 2) = a * b + c * d + e * f := by
  rw [show ([a, b, c, d, e, f] : List Int).length / 2 = 3 by simp]
  simp [dotK]
theorem dot4_yes {a b c d : Int} (ha : inRange a = true) (hb : inRange b = true) (hc : inRange c = true) (hd : inRange d = true) (h : inRange (d4 a b c d) = true) : dotN [a, b, c, d] = d4 a b c d ∧ dotE [a, b, c, d] = 0 := by
  have hall : ([a, b, c, d] : List Int).all inRange = true := by simp [ha, hb, hc, hd]
  have hq : dotQ [a, b, c, d] = d4 a b c d := by unfold dotQ; rw [dotK4]; rfl
  have hbad : dotBad [a, b, c, d] = false := by simp [dotBad]
  unfold dotN dotE
  rw [hbad, hall, hq, h]
  exact ⟨rfl, rfl⟩
theorem dot4_no {a b c d : Int} (h : ¬ inRange (d4 a b c d) = true) : dotN [a, b, c, d] = 0 ∧ dotE [a, b, c, d] = 2 := by
  have hq : dotQ [a, b, c, d] = d4 a b c d := by unfold dotQ; rw [dotK4]; rfl
  have hbad : dotBad [a, b, c, d] = false := by simp [dotBad]
  unfold dotN dotE
  rw [hbad, hq, Bool.eq_false_iff.2 h, Bool.and_false]
  exact ⟨rfl, rfl⟩
theorem dot6_yes {a b c d e : Int} (ha : inRange a = true) (hb : inRange b = true) (hc : inRange c = true) (hd : inRange d = true) (he : inRange e = true) (h : inRange (d6 a b c d e) = true) : dotN [a, b, c, d, e, 10000] = d6 a b c d e ∧ dotE [a, b, c, d, e, 10000] = 0 := by
  have hall : ([a, b, c, d, e, 10000] : List Int).all inRange = true := by simp [ha, hb, hc, hd, he]; rfl
  have hq : dotQ [a, b, c, d, e, 10000] = d6 a b c d e := by unfold dotQ; rw [dotK6]; rfl
  have hbad : dotBad [a, b, c, d, e, 10000] = false := by simp [dotBad]
  unfold dotN dotE
  rw [hbad, hall, hq, h]
  exact ⟨rfl, rfl⟩
theorem dot6_no {a b c d e : Int} (h : ¬ inRange (d6 a b c d e) = true) : dotN [a, b, c, d, e, 10000] = 0 ∧ dotE [a, b, c, d, e, 10000] = 2 := by
  have hq : dotQ [a, b, c, d, e, 10000] = d6 a b c d e := by unfold dotQ; rw [dotK6]; rfl
  have hbad : dotBad [a, b, c, d, e, 10000] = false := by simp [dotBad]
  unfold dotN dotE
  rw [hbad, hq, Bool.eq_false_iff.2 h, Bool.and_false]
  exact ⟨rfl, rfl⟩
/-- Where an argument of the sum is out of range. -/
theorem dot_bad6 {a b c d e : Int} (h : (inRange a && inRange b && inRange c && inRange d && inRange e) = false) : dotN [a, b, c, d, e, 10000] = 0 ∧ dotE [a, b, c, d, e, 10000] = 2 := by
  have hall : ([a, b, c, d, e, 10000] : List Int).all inRange = false := by
    simp only [List.all_cons, List.all_nil]
    revert h
    cases inRange a <;> cases inRange b <;> cases inRange c <;> cases inRange d <;> cases inRange e <;> simp
  have hbad : dotBad [a, b, c, d, e, 10000] = false := by simp [dotBad]
  unfold dotN dotE
  rw [hbad, hall]
  exact ⟨rfl, rfl⟩

theorem reads4 (w : World) (a b c d : Int) (t : TypeId) : ReadsInts (w.alloc (.cells #[.int .i64 a, .int .i64 b, .int .i64 c, .int .i64 d] t)) (some ⟨w.heap.size, 0, none⟩) [a, b, c, d] := by
  intro j hj
  refine ⟨w.heap.size, 0, rfl, ?_⟩
  have hj' : j < 4 := hj
  have h := (Blk.new w t #[.int .i64 a, .int .i64 b, .int .i64 c, .int .i64 d]).cell (0 + j)
  rw [h]
  rcases (show j = 0 ∨ j = 1 ∨ j = 2 ∨ j = 3 by omega) with rfl | rfl | rfl | rfl <;> rfl
theorem reads6 (w : World) (a b c d e f : Int) (t : TypeId) : ReadsInts (w.alloc (.cells #[.int .i64 a, .int .i64 b, .int .i64 c, .int .i64 d, .int .i64 e, .int .i64 f] t)) (some ⟨w.heap.size, 0, none⟩) [a, b, c, d, e, f] := by
  intro j hj
  refine ⟨w.heap.size, 0, rfl, ?_⟩
  have hj' : j < 6 := hj
  have h := (Blk.new w t #[.int .i64 a, .int .i64 b, .int .i64 c, .int .i64 d, .int .i64 e, .int .i64 f]).cell (0 + j)
  rw [h]
  rcases six hj' with rfl | rfl | rfl | rfl | rfl | rfl <;> rfl
theorem info64 : (Tryd.prog.info? 2).map (fun i => (i.zero, i.size, i.bytes)) = some (some (.int .i64 0), 1, 8) := by kernel_rfl
theorem lit4 (W : World) (N : Nat) (hN : N ≤ W.heap.size) (a b c d : Int) : (W.alloc (.cells #[.int .i64 a, .int .i64 b, .int .i64 c, .int .i64 d] 2)).ownsRow N 2 1 (.slice (some ⟨W.heap.size, 0, none⟩) 4 4) 4 [.int .i64 a, .int .i64 b, .int .i64 c, .int .i64 d] :=
  World.ownsRow_lit W #[.int .i64 a, .int .i64 b, .int .i64 c, .int .i64 d] 4 hN (by unfold maxLen; omega) rfl
theorem own_reads6 {w : World} {base g cap : Nat} {a b c d e f : Int} (h : w.ownsRow base 2 1 (.slice (some ⟨g, 0, none⟩) 6 cap) 6 [.int .i64 a, .int .i64 b, .int .i64 c, .int .i64 d, .int .i64 e, .int .i64 f]) : ReadsInts w (some ⟨g, 0, none⟩) [a, b, c, d, e, f] := by
  intro j hj
  have hj' : j < 6 := hj
  refine ⟨g, 0, rfl, ?_⟩
  rw [Nat.zero_add, h.cellAt j (by omega)]
  rcases six hj' with rfl | rfl | rfl | rfl | rfl | rfl <;> rfl

theorem dot4_c (g : Nat) (a b c d n e : Int) (w : World) (hr : ReadsInts w (some ⟨g, 0, none⟩) [a, b, c, d]) (hn : dotN [a, b, c, d] = n) (he : dotE [a, b, c, d] = e) :
    Calls Tryd.prog 77 #[.slice (some ⟨g, 0, none⟩) 4 4] w fun en w' => en = .returned (.tuple #[.int .i64 n, .int .i64 e]) ∧ Below w.heap.size w w' := by
  have h := dot_any (some ⟨g, 0, none⟩) 4 [a, b, c, d] w (by simp) hr
  rw [hn, he] at h
  exact h
theorem dot6_c (g cap : Nat) (a b c d f n e : Int) (w : World) (hr : ReadsInts w (some ⟨g, 0, none⟩) [a, b, c, d, f, 10000]) (hn : dotN [a, b, c, d, f, 10000] = n) (he : dotE [a, b, c, d, f, 10000] = e) :
    Calls Tryd.prog 77 #[.slice (some ⟨g, 0, none⟩) 6 cap] w fun en w' => en = .returned (.tuple #[.int .i64 n, .int .i64 e]) ∧ Below w.heap.size w w' := by
  have h := dot_any (some ⟨g, 0, none⟩) cap [a, b, c, d, f, 10000] w (by simp) hr
  rw [hn, he] at h
  exact h
/-- The first k coefficients. -/
def partM (p : Mx) (k : Nat) : Mx := ⟨if 0 < k then p.a else 0, if 1 < k then p.b else 0, if 2 < k then p.c else 0, if 3 < k then p.d else 0, if 4 < k then p.e else 0, if 5 < k then p.f else 0⟩
theorem partM_six (p : Mx) : partM p 6 = p := rfl
/-- How product ends. -/
def prodEnd (p : Mx) : Ending := if okM p then .returned (mxV p) else gUp 2

/-- What product's rounds know: where the matrices lie, and the addresses of their cells. -/
structure ProdAt (w : World) (N A B R M X Y : Nat) (a b p : Mx) (k : Nat) (wr : World) : Prop where
  ba : Blk wr A 23 #[.int .i64 a.a, .int .i64 a.b, .int .i64 a.c, .int .i64 a.d, .int .i64 a.e, .int .i64 a.f]
  bb : Blk wr B 23 #[.int .i64 b.a, .int .i64 b.b, .int .i64 b.c, .int .i64 b.d, .int .i64 b.e, .int .i64 b.f]
  br : Blk wr R 23 #[.int .i64 0, .int .i64 0, .int .i64 0, .int .i64 0, .int .i64 0, .int .i64 0]
  bm : Blk wr M 23 (mxC (partM p k))
  bx : Blk wr X 68 #[.pointer (some ⟨A, 0, none⟩), .pointer (some ⟨A, 1, none⟩), .pointer (some ⟨A, 2, none⟩), .pointer (some ⟨A, 3, none⟩), .pointer (some ⟨A, 4, none⟩), .pointer (some ⟨A, 5, none⟩)]
  by_ : Blk wr Y 68 #[.pointer (some ⟨B, 0, none⟩), .pointer (some ⟨B, 1, none⟩), .pointer (some ⟨B, 2, none⟩), .pointer (some ⟨B, 3, none⟩), .pointer (some ⟨B, 4, none⟩), .pointer (some ⟨B, 5, none⟩)]
  below : Below N w wr
  ok : ∀ j, j < k → inRange (p.at j) = true
theorem ProdAt.keep {w : World} {N A B R M X Y : Nat} {a b p : Mx} {k : Nat} {wr w' : World} (h : ProdAt w N A B R M X Y a b p k wr) (hb : Below wr.heap.size wr w') (hN : N ≤ wr.heap.size) : ProdAt w N A B R M X Y a b p k w' :=
  ⟨h.ba.below hb h.ba.lt, h.bb.below hb h.bb.lt, h.br.below hb h.br.lt, h.bm.below hb h.bm.lt, h.bx.below hb h.bx.lt, h.by_.below hb h.by_.lt, h.below.trans (hb.mono hN), h.ok⟩
theorem ProdAt.part {w : World} {N A B R M X Y : Nat} {a b p : Mx} {k : Nat} {wr w' : World} {G : Nat} (h : ProdAt w N A B R M X Y a b p k wr) (hb : Below G wr w') (hl : A < G ∧ B < G ∧ R < G ∧ M < G ∧ X < G ∧ Y < G) (hN : N ≤ G) : ProdAt w N A B R M X Y a b p k w' :=
  ⟨h.ba.below hb hl.1, h.bb.below hb hl.2.1, h.br.below hb hl.2.2.1, h.bm.below hb hl.2.2.2.1, h.bx.below hb hl.2.2.2.2.1, h.by_.below hb hl.2.2.2.2.2, h.below.trans (hb.mono hN), h.ok⟩
theorem row_below {W W' : World} {N : Nat} {e : TypeId} {size : Nat} {v : Value} {n : Nat} {xs : List Value} (h : W.ownsRow N e size v n xs) (hb : Below W.heap.size W W') : W'.ownsRow N e size v n xs :=
  h.kept (row := none) ⟨hb.os, hb.tape, hb.output, hb.size, fun k hk _ => hb.block k hk⟩ (by cases v.ownBlock <;> simp)
theorem new_two (w : World) {g : Nat} (hg : w.heap.size = g) (u v : Value) (t : TypeId) : ∀ j x, [u, v][j]? = some x → (w.alloc (.cells #[u, v] t)).cell? ((⟨g, 0, none⟩ : Addr).add j) = some x := by
  subst hg
  exact World.news_of_block (heap_alloc_new w _)
/-- A coefficient more. -/
theorem ProdAt.next {w : World} {N A B R M X Y : Nat} {a b p : Mx} {k : Nat} {wr : World} (h : ProdAt w N A B R M X Y a b p k wr) (hk : k < 6) (hN : N ≤ M) (hM : A ≠ M ∧ B ≠ M ∧ R ≠ M ∧ X ≠ M ∧ Y ≠ M) {v : Int} (hv : p.at k = v) (hr : inRange v = true) : ProdAt w N A B R M X Y a b p (k + 1) (wr.setCell ⟨M, k, none⟩ (.int .i64 v)) := by
  obtain ⟨h1, h2, h3, h4, h5⟩ := hM
  refine ⟨h.ba.far (p := ⟨M, k, none⟩) h1 _, h.bb.far (p := ⟨M, k, none⟩) h2 _, h.br.far (p := ⟨M, k, none⟩) h3 _, ?_, h.bx.far (p := ⟨M, k, none⟩) h4 _, h.by_.far (p := ⟨M, k, none⟩) h5 _, h.below.setCell (p := ⟨M, k, none⟩) hN _, fun j hj => ?_⟩
  · have hs := h.bm.set_ k (.int .i64 v)
    rw [← hv] at hs ⊢
    rcases six hk with rfl | rfl | rfl | rfl | rfl | rfl <;> exact hs
  · by_cases hjk : j < k
    · exact h.ok j hjk
    · obtain rfl : j = k := by omega
      rw [hv]
      exact hr

set_option maxRecDepth 100000 in
set_option maxHeartbeats 16000000 in
theorem product_any (a b p : Mx) (w : World) (ha : okM a = true) (hb : okM b = true) (hp : mulM a b = p) :
    Calls Tryd.prog 60 #[mxV a, mxV b] w fun e w' => e = prodEnd p ∧ Below w.heap.size w w' := by
  unfold mxV
  obtain ⟨N, hN⟩ : ∃ N, w.heap.size = N := ⟨_, rfl⟩
  obtain ⟨B, hB⟩ : ∃ B, N + 1 = B := ⟨_, rfl⟩
  obtain ⟨R, hR⟩ : ∃ R, B + 1 = R := ⟨_, rfl⟩
  obtain ⟨M, hM⟩ : ∃ M, R + 1 = M := ⟨_, rfl⟩
  have HA := Lib.hid (And.intro (okM_yes ha) (okM_yes hb))
  have HP := Lib.hid hp
  obtain ⟨V, hV⟩ : ∃ V, (((w.alloc (.cells #[.int .i64 a.a, .int .i64 a.b, .int .i64 a.c, .int .i64 a.d, .int .i64 a.e, .int .i64 a.f] 23)).alloc (.cells #[.int .i64 b.a, .int .i64 b.b, .int .i64 b.c, .int .i64 b.d, .int .i64 b.e, .int .i64 b.f] 23)).alloc (.cells #[.int .i64 0, .int .i64 0, .int .i64 0, .int .i64 0, .int .i64 0, .int .i64 0] 23)).alloc (.cells #[.int .i64 0, .int .i64 0, .int .i64 0, .int .i64 0, .int .i64 0, .int .i64 0] 23) = V := ⟨_, rfl⟩
  have hVs : V.heap.size = M + 1 := by rw [← hV]; simp [hN]; omega
  have bA : Blk V N 23 #[.int .i64 a.a, .int .i64 a.b, .int .i64 a.c, .int .i64 a.d, .int .i64 a.e, .int .i64 a.f] := by
    rw [← hV, ← hN]
    exact (((Blk.new w _ _).alloc _).alloc _).alloc _
  have bB : Blk V B 23 #[.int .i64 b.a, .int .i64 b.b, .int .i64 b.c, .int .i64 b.d, .int .i64 b.e, .int .i64 b.f] := by
    rw [← hV]
    have := ((Blk.new (w.alloc (.cells #[.int .i64 a.a, .int .i64 a.b, .int .i64 a.c, .int .i64 a.d, .int .i64 a.e, .int .i64 a.f] 23)) 23 #[.int .i64 b.a, .int .i64 b.b, .int .i64 b.c, .int .i64 b.d, .int .i64 b.e, .int .i64 b.f]).alloc (.cells #[.int .i64 0, .int .i64 0, .int .i64 0, .int .i64 0, .int .i64 0, .int .i64 0] 23)).alloc (.cells #[.int .i64 0, .int .i64 0, .int .i64 0, .int .i64 0, .int .i64 0, .int .i64 0] 23)
    rw [World.size_alloc, hN, hB] at this
    exact this
  have bR : Blk V R 23 #[.int .i64 0, .int .i64 0, .int .i64 0, .int .i64 0, .int .i64 0, .int .i64 0] := by
    rw [← hV]
    have := (Blk.new ((w.alloc (.cells #[.int .i64 a.a, .int .i64 a.b, .int .i64 a.c, .int .i64 a.d, .int .i64 a.e, .int .i64 a.f] 23)).alloc (.cells #[.int .i64 b.a, .int .i64 b.b, .int .i64 b.c, .int .i64 b.d, .int .i64 b.e, .int .i64 b.f] 23)) 23 #[.int .i64 0, .int .i64 0, .int .i64 0, .int .i64 0, .int .i64 0, .int .i64 0]).alloc (.cells #[.int .i64 0, .int .i64 0, .int .i64 0, .int .i64 0, .int .i64 0, .int .i64 0] 23)
    rw [World.size_alloc, World.size_alloc, hN, hB, hR] at this
    exact this
  have bM : Blk V M 23 #[.int .i64 0, .int .i64 0, .int .i64 0, .int .i64 0, .int .i64 0, .int .i64 0] := by
    rw [← hV]
    have := Blk.new (((w.alloc (.cells #[.int .i64 a.a, .int .i64 a.b, .int .i64 a.c, .int .i64 a.d, .int .i64 a.e, .int .i64 a.f] 23)).alloc (.cells #[.int .i64 b.a, .int .i64 b.b, .int .i64 b.c, .int .i64 b.d, .int .i64 b.e, .int .i64 b.f] 23)).alloc (.cells #[.int .i64 0, .int .i64 0, .int .i64 0, .int .i64 0, .int .i64 0, .int .i64 0] 23)) 23 #[.int .i64 0, .int .i64 0, .int .i64 0, .int .i64 0, .int .i64 0, .int .i64 0]
    rw [World.size_alloc, World.size_alloc, World.size_alloc, hN, hB, hR, hM] at this
    exact this
  have hBV : Below N w V := by
    rw [← hV, ← hN]
    exact ((((Below.refl _ w).alloc (Nat.le_refl _) _).alloc (by simp) _).alloc (by simp; omega) _).alloc (by simp; omega) _
  rw [hN]
  go_enter Tryd.func60, Tryd.ntmps60
  go_upto_region 2 with fail
  have HV := Lib.hid (And.intro bA (And.intro bB (And.intro bR (And.intro bM (And.intro hBV hVs)))))
  clear bA bB bR bM hBV hVs hV hp ha hb
  go_wp2_with fail
  refine (cells_any N V).mono ?_
  rintro e w2 ⟨rfl, hb2⟩
  have HB2 := Lib.hid hb2
  clear hb2
  unfold ptrs
  go_wp2_with fail
  refine (cells_any B w2).mono ?_
  rintro e w3 ⟨rfl, hb3⟩
  have HB3 : Hid (Below (M + 1) V w3) := Lib.hid (by have h := HB2.out; have hs := HV.out.2.2.2.2.2; rw [hs] at h; exact h.trans (hb3.mono (by have := h.size; omega)))
  clear hb3 HB2
  unfold ptrs
  obtain ⟨X, hX⟩ : ∃ X, w3.heap.size = X := ⟨_, rfl⟩
  go_upto_region 3 with fail
  obtain ⟨Y, hY⟩ : ∃ Y, X + 1 = Y := ⟨_, rfl⟩
  rw [hY]
  obtain ⟨w4, hw4⟩ : ∃ w4, (w3.alloc (.cells #[.pointer (some ⟨N, 0, none⟩), .pointer (some ⟨N, 1, none⟩), .pointer (some ⟨N, 2, none⟩), .pointer (some ⟨N, 3, none⟩), .pointer (some ⟨N, 4, none⟩), .pointer (some ⟨N, 5, none⟩)] 68)).alloc (.cells #[.pointer (some ⟨B, 0, none⟩), .pointer (some ⟨B, 1, none⟩), .pointer (some ⟨B, 2, none⟩), .pointer (some ⟨B, 3, none⟩), .pointer (some ⟨B, 4, none⟩), .pointer (some ⟨B, 5, none⟩)] 68) = w4 := ⟨_, rfl⟩
  rw [hw4]
  have hX4 : M + 1 ≤ X := by have h1 := HB3.out.size; have h2 := HV.out.2.2.2.2.2; omega
  have HI0 : Hid (ProdAt w N N B R M X Y a b p 0 w4) := Lib.hid (by
    have hb4 : Below X w3 w4 := by rw [← hw4, ← hX]; exact ((Below.refl _ w3).alloc (Nat.le_refl _) _).alloc (by simp) _
    obtain ⟨q1, q2, q3, q4, q5, q6⟩ := HV.out
    have hbV : Below (M + 1) V w4 := HB3.out.trans (hb4.mono hX4)
    refine ⟨q1.below hbV (by omega), q2.below hbV (by omega), q3.below hbV (by omega), q4.below hbV (by omega), ?_, ?_, q5.trans (hbV.mono (by omega)), fun j hj => absurd hj (Nat.not_lt_zero _)⟩
    · rw [← hw4, ← hX]
      exact (Blk.new w3 _ _).alloc _
    · rw [← hw4]
      have := Blk.new (w3.alloc (.cells #[.pointer (some ⟨N, 0, none⟩), .pointer (some ⟨N, 1, none⟩), .pointer (some ⟨N, 2, none⟩), .pointer (some ⟨N, 3, none⟩), .pointer (some ⟨N, 4, none⟩), .pointer (some ⟨N, 5, none⟩)] 68)) 68 #[.pointer (some ⟨B, 0, none⟩), .pointer (some ⟨B, 1, none⟩), .pointer (some ⟨B, 2, none⟩), .pointer (some ⟨B, 3, none⟩), .pointer (some ⟨B, 4, none⟩), .pointer (some ⟨B, 5, none⟩)]
      rw [World.size_alloc, hX, hY] at this
      exact this)
  have HNR0 := Lib.hid (show N ≤ R by omega)
  have HL := Lib.hid (show N ≤ M ∧ (N ≠ M ∧ B ≠ M ∧ R ≠ M ∧ X ≠ M ∧ Y ≠ M) by omega)
  have HZ : Hid (N ≤ w4.heap.size) := Lib.hid (by have := HI0.out.ba.lt; omega)
  clear HB3 HV hX4 hw4 hX hY hN hB hR hM
  go_wp2_with fail
  refine (cells_any M w4).mono ?_
  rintro e w5 ⟨rfl, hb5⟩
  have HI5 := Lib.hid (HI0.out.keep hb5 HZ.out)
  obtain ⟨PM, hPM⟩ : ∃ P, ptrs M = P := ⟨_, rfl⟩
  have HP6 := Lib.hid (fun k (h : k < 6) (W : World) => hPM ▸ ptrs_at M k h W)
  rw [hPM]
  clear hPM hb5 HI0 HZ
  go_wp2_with fail
  go_loopw [16] (fun i wr => ∃ k : Nat, k ≤ 6 ∧ i = .int .i64 (k : Int) ∧ Hid (ProdAt w N N B R M X Y a b p k wr)) (fun i _ => 6 - (intOf i).toNat)
  case atStart => exact ⟨0, by omega, rfl, HI5⟩
  case round =>
    obtain ⟨k, hk, rfl, HI⟩ := hrel
    clear HI5
    by_cases hlt : k < 6
    · rcases six hlt with rfl | rfl | rfl | rfl | rfl | rfl
      · as_aux_lemma =>
        have hi : ∀ W : World, (Instr.index 68 PM (.int .i64 0)).run Tryd.prog W = .ok (.pointer (some ⟨M, 0, none⟩)) W := HP6.out 0 (by decide)
        have HD : Hid (ProdAt w N N B R M X Y a b p 0 (wr.drewN 1)) := Lib.hid (HI.out.keep (below_drewN (Below.refl _ _) 1) (Nat.le_trans HL.out.1 (Nat.le_of_lt HI.out.bm.lt)))
        obtain ⟨v, hv⟩ : ∃ v, p.at 0 = v := ⟨_, rfl⟩
        have hv2 : d4 a.a b.a a.b b.c = v := by rw [← hv, ← HP.out]; rfl
        rw [show ((0 : Nat) : Int) = 0 from rfl]
        have HVK := Lib.hid hv
        have HV2 := Lib.hid hv2
        clear hv hv2 hlt hk
        go_wp2_with fail
        go_still_tail 24, (by kernel_rfl)
        obtain ⟨wd, hwd⟩ : ∃ wd, ({ heap := wr.heap, tape := wr.tape, drawn := wr.drawn + 1, os := wr.os, output := wr.output } : World) = wd := ⟨_, rfl⟩
        have HID : Hid (ProdAt w N N B R M X Y a b p 0 wd) := by rw [← hwd]; exact HD
        rw [hwd]
        clear hwd HD HI
        have x0 : wd.cell? ⟨X, 0, none⟩ = some (.pointer (some ⟨N, 0, none⟩)) := (HID.out.bx.cell 0).trans rfl
        have y0 : wd.cell? ⟨N, 0, none⟩ = some (.int .i64 a.a) := (HID.out.ba.cell 0).trans rfl
        have x1 : wd.cell? ⟨Y, 0, none⟩ = some (.pointer (some ⟨B, 0, none⟩)) := (HID.out.by_.cell 0).trans rfl
        have y1 : wd.cell? ⟨B, 0, none⟩ = some (.int .i64 b.a) := (HID.out.bb.cell 0).trans rfl
        have x2 : wd.cell? ⟨X, 1, none⟩ = some (.pointer (some ⟨N, 1, none⟩)) := (HID.out.bx.cell 1).trans rfl
        have y2 : wd.cell? ⟨N, 1, none⟩ = some (.int .i64 a.b) := (HID.out.ba.cell 1).trans rfl
        have x3 : wd.cell? ⟨Y, 2, none⟩ = some (.pointer (some ⟨B, 2, none⟩)) := (HID.out.by_.cell 2).trans rfl
        have y3 : wd.cell? ⟨B, 2, none⟩ = some (.int .i64 b.c) := (HID.out.bb.cell 2).trans rfl
        have q0 : IntKind.i64.wrap 0 = 0 := IntWalk.i64_in _ (by decide)
        have q1 : IntKind.i64.wrap 1 = 1 := IntWalk.i64_in _ (by decide)
        have q2 : IntKind.i64.wrap 2 = 2 := IntWalk.i64_in _ (by decide)
        have q3 : IntKind.i64.wrap 3 = 3 := IntWalk.i64_in _ (by decide)
        have q4 : IntKind.i64.wrap 4 = 4 := IntWalk.i64_in _ (by decide)
        have q5 : IntKind.i64.wrap 5 = 5 := IntWalk.i64_in _ (by decide)
        repeat still_step
        refine wpStill_nil ?_
        go_upto_region 8 with fail
        obtain ⟨G, hG⟩ : ∃ G, wd.heap.size = G := ⟨_, rfl⟩
        obtain ⟨w6, hw6⟩ : ∃ w6, wd.alloc (.cells #[.int .i64 a.a, .int .i64 b.a, .int .i64 a.b, .int .i64 b.c] 2) = w6 := ⟨_, rfl⟩
        have HI6 : Hid (ProdAt w N N B R M X Y a b p 0 w6) := Lib.hid (by rw [← hw6]; exact HID.out.keep ((Below.refl _ wd).alloc (Nat.le_refl _) _) (Nat.le_trans HL.out.1 (Nat.le_of_lt HID.out.bm.lt)))
        have HRd : Hid (ReadsInts w6 (some ⟨G, 0, none⟩) [a.a, b.a, a.b, b.c]) := Lib.hid (by rw [← hw6, ← hG]; exact reads4 _ _ _ _ _ _)
        rw [hw6, hG]
        clear hw6 hG HID x0 y0 x1 y1 x2 y2 x3 y3 q0 q1 q2 q3 q4 q5
        by_cases hr : inRange v = true
        · have HDot := Lib.hid (dot4_yes HA.out.1.1 HA.out.2.1 HA.out.1.2.1 HA.out.2.2.2.1 (by rw [HV2.out]; exact hr))
          rw [HV2.out] at HDot
          go_wp2_with fail
          refine (dot4_c G a.a b.a a.b b.c v 0 w6 HRd.out HDot.out.1 HDot.out.2).mono ?_
          rintro e w7 ⟨rfl, hb7⟩
          have HI7 := Lib.hid (HI6.out.keep hb7 (Nat.le_trans HL.out.1 (Nat.le_of_lt HI6.out.bm.lt)))
          clear hb7 HI6 HRd HDot
          go_wp2_with fail
          refine (value_ok v _).mono ?_
          rintro e w' ⟨rfl, rfl⟩
          have m0 : w7.cell? ⟨M, 0, none⟩ = some (.int .i64 0) := (HI7.out.bm.cell 0).trans rfl
          have f0 : w7.frozen? ⟨M, 0, none⟩ = false := HI7.out.bm.frozen 0
          go_wp2_with fail
          go_roundw
          case rel => exact ⟨1, by omega, by go_num, Lib.hid (HI7.out.next (by decide) HL.out.1 HL.out.2 HVK.out hr)⟩
          case measure => simp [intOf]
        · have HDot := Lib.hid (dot4_no (a := a.a) (b := b.a) (c := a.b) (d := b.c) (by rw [HV2.out]; exact hr))
          have HE := Lib.hid (show prodEnd p = gUp 2 by unfold prodEnd; rw [okM_not (k := 0) (by decide) (by rw [HVK.out]; exact hr)]; rfl)
          go_wp2_with fail
          refine (dot4_c G a.a b.a a.b b.c 0 2 w6 HRd.out HDot.out.1 HDot.out.2).mono ?_
          rintro e w7 ⟨rfl, hb7⟩
          have HI7 := Lib.hid (HI6.out.keep hb7 (Nat.le_trans HL.out.1 (Nat.le_of_lt HI6.out.bm.lt)))
          clear hb7 HI6 HRd HDot
          go_wp2_with fail
          refine (value_two 0 _).mono ?_
          rintro e w' ⟨rfl, rfl⟩
          exact ⟨rfl, HE.out.symm, HI7.out.below⟩
      · as_aux_lemma =>
        have hi : ∀ W : World, (Instr.index 68 PM (.int .i64 1)).run Tryd.prog W = .ok (.pointer (some ⟨M, 1, none⟩)) W := HP6.out 1 (by decide)
        have HD : Hid (ProdAt w N N B R M X Y a b p 1 (wr.drewN 1)) := Lib.hid (HI.out.keep (below_drewN (Below.refl _ _) 1) (Nat.le_trans HL.out.1 (Nat.le_of_lt HI.out.bm.lt)))
        obtain ⟨v, hv⟩ : ∃ v, p.at 1 = v := ⟨_, rfl⟩
        have hv2 : d4 a.a b.b a.b b.d = v := by rw [← hv, ← HP.out]; rfl
        rw [show ((1 : Nat) : Int) = 1 from rfl]
        have HVK := Lib.hid hv
        have HV2 := Lib.hid hv2
        clear hv hv2 hlt hk
        go_wp2_with fail
        go_still_tail 24, (by kernel_rfl)
        obtain ⟨wd, hwd⟩ : ∃ wd, ({ heap := wr.heap, tape := wr.tape, drawn := wr.drawn + 1, os := wr.os, output := wr.output } : World) = wd := ⟨_, rfl⟩
        have HID : Hid (ProdAt w N N B R M X Y a b p 1 wd) := by rw [← hwd]; exact HD
        rw [hwd]
        clear hwd HD HI
        have x0 : wd.cell? ⟨X, 0, none⟩ = some (.pointer (some ⟨N, 0, none⟩)) := (HID.out.bx.cell 0).trans rfl
        have y0 : wd.cell? ⟨N, 0, none⟩ = some (.int .i64 a.a) := (HID.out.ba.cell 0).trans rfl
        have x1 : wd.cell? ⟨Y, 1, none⟩ = some (.pointer (some ⟨B, 1, none⟩)) := (HID.out.by_.cell 1).trans rfl
        have y1 : wd.cell? ⟨B, 1, none⟩ = some (.int .i64 b.b) := (HID.out.bb.cell 1).trans rfl
        have x2 : wd.cell? ⟨X, 1, none⟩ = some (.pointer (some ⟨N, 1, none⟩)) := (HID.out.bx.cell 1).trans rfl
        have y2 : wd.cell? ⟨N, 1, none⟩ = some (.int .i64 a.b) := (HID.out.ba.cell 1).trans rfl
        have x3 : wd.cell? ⟨Y, 3, none⟩ = some (.pointer (some ⟨B, 3, none⟩)) := (HID.out.by_.cell 3).trans rfl
        have y3 : wd.cell? ⟨B, 3, none⟩ = some (.int .i64 b.d) := (HID.out.bb.cell 3).trans rfl
        have q0 : IntKind.i64.wrap 0 = 0 := IntWalk.i64_in _ (by decide)
        have q1 : IntKind.i64.wrap 1 = 1 := IntWalk.i64_in _ (by decide)
        have q2 : IntKind.i64.wrap 2 = 2 := IntWalk.i64_in _ (by decide)
        have q3 : IntKind.i64.wrap 3 = 3 := IntWalk.i64_in _ (by decide)
        have q4 : IntKind.i64.wrap 4 = 4 := IntWalk.i64_in _ (by decide)
        have q5 : IntKind.i64.wrap 5 = 5 := IntWalk.i64_in _ (by decide)
        repeat still_step
        refine wpStill_nil ?_
        go_upto_region 8 with fail
        obtain ⟨G, hG⟩ : ∃ G, wd.heap.size = G := ⟨_, rfl⟩
        obtain ⟨w6, hw6⟩ : ∃ w6, wd.alloc (.cells #[.int .i64 a.a, .int .i64 b.b, .int .i64 a.b, .int .i64 b.d] 2) = w6 := ⟨_, rfl⟩
        have HI6 : Hid (ProdAt w N N B R M X Y a b p 1 w6) := Lib.hid (by rw [← hw6]; exact HID.out.keep ((Below.refl _ wd).alloc (Nat.le_refl _) _) (Nat.le_trans HL.out.1 (Nat.le_of_lt HID.out.bm.lt)))
        have HRd : Hid (ReadsInts w6 (some ⟨G, 0, none⟩) [a.a, b.b, a.b, b.d]) := Lib.hid (by rw [← hw6, ← hG]; exact reads4 _ _ _ _ _ _)
        rw [hw6, hG]
        clear hw6 hG HID x0 y0 x1 y1 x2 y2 x3 y3 q0 q1 q2 q3 q4 q5
        by_cases hr : inRange v = true
        · have HDot := Lib.hid (dot4_yes HA.out.1.1 HA.out.2.2.1 HA.out.1.2.1 HA.out.2.2.2.2.1 (by rw [HV2.out]; exact hr))
          rw [HV2.out] at HDot
          go_wp2_with fail
          refine (dot4_c G a.a b.b a.b b.d v 0 w6 HRd.out HDot.out.1 HDot.out.2).mono ?_
          rintro e w7 ⟨rfl, hb7⟩
          have HI7 := Lib.hid (HI6.out.keep hb7 (Nat.le_trans HL.out.1 (Nat.le_of_lt HI6.out.bm.lt)))
          clear hb7 HI6 HRd HDot
          go_wp2_with fail
          refine (value_ok v _).mono ?_
          rintro e w' ⟨rfl, rfl⟩
          have m0 : w7.cell? ⟨M, 1, none⟩ = some (.int .i64 0) := (HI7.out.bm.cell 1).trans rfl
          have f0 : w7.frozen? ⟨M, 1, none⟩ = false := HI7.out.bm.frozen 1
          go_wp2_with fail
          go_roundw
          case rel => exact ⟨2, by omega, by go_num, Lib.hid (HI7.out.next (by decide) HL.out.1 HL.out.2 HVK.out hr)⟩
          case measure => simp [intOf]
        · have HDot := Lib.hid (dot4_no (a := a.a) (b := b.b) (c := a.b) (d := b.d) (by rw [HV2.out]; exact hr))
          have HE := Lib.hid (show prodEnd p = gUp 2 by unfold prodEnd; rw [okM_not (k := 1) (by decide) (by rw [HVK.out]; exact hr)]; rfl)
          go_wp2_with fail
          refine (dot4_c G a.a b.b a.b b.d 0 2 w6 HRd.out HDot.out.1 HDot.out.2).mono ?_
          rintro e w7 ⟨rfl, hb7⟩
          have HI7 := Lib.hid (HI6.out.keep hb7 (Nat.le_trans HL.out.1 (Nat.le_of_lt HI6.out.bm.lt)))
          clear hb7 HI6 HRd HDot
          go_wp2_with fail
          refine (value_two 0 _).mono ?_
          rintro e w' ⟨rfl, rfl⟩
          exact ⟨rfl, HE.out.symm, HI7.out.below⟩
      · as_aux_lemma =>
        have hi : ∀ W : World, (Instr.index 68 PM (.int .i64 2)).run Tryd.prog W = .ok (.pointer (some ⟨M, 2, none⟩)) W := HP6.out 2 (by decide)
        have HD : Hid (ProdAt w N N B R M X Y a b p 2 (wr.drewN 1)) := Lib.hid (HI.out.keep (below_drewN (Below.refl _ _) 1) (Nat.le_trans HL.out.1 (Nat.le_of_lt HI.out.bm.lt)))
        obtain ⟨v, hv⟩ : ∃ v, p.at 2 = v := ⟨_, rfl⟩
        have hv2 : d4 a.c b.a a.d b.c = v := by rw [← hv, ← HP.out]; rfl
        rw [show ((2 : Nat) : Int) = 2 from rfl]
        have HVK := Lib.hid hv
        have HV2 := Lib.hid hv2
        clear hv hv2 hlt hk
        go_wp2_with fail
        go_still_tail 24, (by kernel_rfl)
        obtain ⟨wd, hwd⟩ : ∃ wd, ({ heap := wr.heap, tape := wr.tape, drawn := wr.drawn + 1, os := wr.os, output := wr.output } : World) = wd := ⟨_, rfl⟩
        have HID : Hid (ProdAt w N N B R M X Y a b p 2 wd) := by rw [← hwd]; exact HD
        rw [hwd]
        clear hwd HD HI
        have x0 : wd.cell? ⟨X, 2, none⟩ = some (.pointer (some ⟨N, 2, none⟩)) := (HID.out.bx.cell 2).trans rfl
        have y0 : wd.cell? ⟨N, 2, none⟩ = some (.int .i64 a.c) := (HID.out.ba.cell 2).trans rfl
        have x1 : wd.cell? ⟨Y, 0, none⟩ = some (.pointer (some ⟨B, 0, none⟩)) := (HID.out.by_.cell 0).trans rfl
        have y1 : wd.cell? ⟨B, 0, none⟩ = some (.int .i64 b.a) := (HID.out.bb.cell 0).trans rfl
        have x2 : wd.cell? ⟨X, 3, none⟩ = some (.pointer (some ⟨N, 3, none⟩)) := (HID.out.bx.cell 3).trans rfl
        have y2 : wd.cell? ⟨N, 3, none⟩ = some (.int .i64 a.d) := (HID.out.ba.cell 3).trans rfl
        have x3 : wd.cell? ⟨Y, 2, none⟩ = some (.pointer (some ⟨B, 2, none⟩)) := (HID.out.by_.cell 2).trans rfl
        have y3 : wd.cell? ⟨B, 2, none⟩ = some (.int .i64 b.c) := (HID.out.bb.cell 2).trans rfl
        have q0 : IntKind.i64.wrap 0 = 0 := IntWalk.i64_in _ (by decide)
        have q1 : IntKind.i64.wrap 1 = 1 := IntWalk.i64_in _ (by decide)
        have q2 : IntKind.i64.wrap 2 = 2 := IntWalk.i64_in _ (by decide)
        have q3 : IntKind.i64.wrap 3 = 3 := IntWalk.i64_in _ (by decide)
        have q4 : IntKind.i64.wrap 4 = 4 := IntWalk.i64_in _ (by decide)
        have q5 : IntKind.i64.wrap 5 = 5 := IntWalk.i64_in _ (by decide)
        repeat still_step
        refine wpStill_nil ?_
        go_upto_region 8 with fail
        obtain ⟨G, hG⟩ : ∃ G, wd.heap.size = G := ⟨_, rfl⟩
        obtain ⟨w6, hw6⟩ : ∃ w6, wd.alloc (.cells #[.int .i64 a.c, .int .i64 b.a, .int .i64 a.d, .int .i64 b.c] 2) = w6 := ⟨_, rfl⟩
        have HI6 : Hid (ProdAt w N N B R M X Y a b p 2 w6) := Lib.hid (by rw [← hw6]; exact HID.out.keep ((Below.refl _ wd).alloc (Nat.le_refl _) _) (Nat.le_trans HL.out.1 (Nat.le_of_lt HID.out.bm.lt)))
        have HRd : Hid (ReadsInts w6 (some ⟨G, 0, none⟩) [a.c, b.a, a.d, b.c]) := Lib.hid (by rw [← hw6, ← hG]; exact reads4 _ _ _ _ _ _)
        rw [hw6, hG]
        clear hw6 hG HID x0 y0 x1 y1 x2 y2 x3 y3 q0 q1 q2 q3 q4 q5
        by_cases hr : inRange v = true
        · have HDot := Lib.hid (dot4_yes HA.out.1.2.2.1 HA.out.2.1 HA.out.1.2.2.2.1 HA.out.2.2.2.1 (by rw [HV2.out]; exact hr))
          rw [HV2.out] at HDot
          go_wp2_with fail
          refine (dot4_c G a.c b.a a.d b.c v 0 w6 HRd.out HDot.out.1 HDot.out.2).mono ?_
          rintro e w7 ⟨rfl, hb7⟩
          have HI7 := Lib.hid (HI6.out.keep hb7 (Nat.le_trans HL.out.1 (Nat.le_of_lt HI6.out.bm.lt)))
          clear hb7 HI6 HRd HDot
          go_wp2_with fail
          refine (value_ok v _).mono ?_
          rintro e w' ⟨rfl, rfl⟩
          have m0 : w7.cell? ⟨M, 2, none⟩ = some (.int .i64 0) := (HI7.out.bm.cell 2).trans rfl
          have f0 : w7.frozen? ⟨M, 2, none⟩ = false := HI7.out.bm.frozen 2
          go_wp2_with fail
          go_roundw
          case rel => exact ⟨3, by omega, by go_num, Lib.hid (HI7.out.next (by decide) HL.out.1 HL.out.2 HVK.out hr)⟩
          case measure => simp [intOf]
        · have HDot := Lib.hid (dot4_no (a := a.c) (b := b.a) (c := a.d) (d := b.c) (by rw [HV2.out]; exact hr))
          have HE := Lib.hid (show prodEnd p = gUp 2 by unfold prodEnd; rw [okM_not (k := 2) (by decide) (by rw [HVK.out]; exact hr)]; rfl)
          go_wp2_with fail
          refine (dot4_c G a.c b.a a.d b.c 0 2 w6 HRd.out HDot.out.1 HDot.out.2).mono ?_
          rintro e w7 ⟨rfl, hb7⟩
          have HI7 := Lib.hid (HI6.out.keep hb7 (Nat.le_trans HL.out.1 (Nat.le_of_lt HI6.out.bm.lt)))
          clear hb7 HI6 HRd HDot
          go_wp2_with fail
          refine (value_two 0 _).mono ?_
          rintro e w' ⟨rfl, rfl⟩
          exact ⟨rfl, HE.out.symm, HI7.out.below⟩
      · as_aux_lemma =>
        have hi : ∀ W : World, (Instr.index 68 PM (.int .i64 3)).run Tryd.prog W = .ok (.pointer (some ⟨M, 3, none⟩)) W := HP6.out 3 (by decide)
        have HD : Hid (ProdAt w N N B R M X Y a b p 3 (wr.drewN 1)) := Lib.hid (HI.out.keep (below_drewN (Below.refl _ _) 1) (Nat.le_trans HL.out.1 (Nat.le_of_lt HI.out.bm.lt)))
        obtain ⟨v, hv⟩ : ∃ v, p.at 3 = v := ⟨_, rfl⟩
        have hv2 : d4 a.c b.b a.d b.d = v := by rw [← hv, ← HP.out]; rfl
        rw [show ((3 : Nat) : Int) = 3 from rfl]
        have HVK := Lib.hid hv
        have HV2 := Lib.hid hv2
        clear hv hv2 hlt hk
        go_wp2_with fail
        go_still_tail 24, (by kernel_rfl)
        obtain ⟨wd, hwd⟩ : ∃ wd, ({ heap := wr.heap, tape := wr.tape, drawn := wr.drawn + 1, os := wr.os, output := wr.output } : World) = wd := ⟨_, rfl⟩
        have HID : Hid (ProdAt w N N B R M X Y a b p 3 wd) := by rw [← hwd]; exact HD
        rw [hwd]
        clear hwd HD HI
        have x0 : wd.cell? ⟨X, 2, none⟩ = some (.pointer (some ⟨N, 2, none⟩)) := (HID.out.bx.cell 2).trans rfl
        have y0 : wd.cell? ⟨N, 2, none⟩ = some (.int .i64 a.c) := (HID.out.ba.cell 2).trans rfl
        have x1 : wd.cell? ⟨Y, 1, none⟩ = some (.pointer (some ⟨B, 1, none⟩)) := (HID.out.by_.cell 1).trans rfl
        have y1 : wd.cell? ⟨B, 1, none⟩ = some (.int .i64 b.b) := (HID.out.bb.cell 1).trans rfl
        have x2 : wd.cell? ⟨X, 3, none⟩ = some (.pointer (some ⟨N, 3, none⟩)) := (HID.out.bx.cell 3).trans rfl
        have y2 : wd.cell? ⟨N, 3, none⟩ = some (.int .i64 a.d) := (HID.out.ba.cell 3).trans rfl
        have x3 : wd.cell? ⟨Y, 3, none⟩ = some (.pointer (some ⟨B, 3, none⟩)) := (HID.out.by_.cell 3).trans rfl
        have y3 : wd.cell? ⟨B, 3, none⟩ = some (.int .i64 b.d) := (HID.out.bb.cell 3).trans rfl
        have q0 : IntKind.i64.wrap 0 = 0 := IntWalk.i64_in _ (by decide)
        have q1 : IntKind.i64.wrap 1 = 1 := IntWalk.i64_in _ (by decide)
        have q2 : IntKind.i64.wrap 2 = 2 := IntWalk.i64_in _ (by decide)
        have q3 : IntKind.i64.wrap 3 = 3 := IntWalk.i64_in _ (by decide)
        have q4 : IntKind.i64.wrap 4 = 4 := IntWalk.i64_in _ (by decide)
        have q5 : IntKind.i64.wrap 5 = 5 := IntWalk.i64_in _ (by decide)
        repeat still_step
        refine wpStill_nil ?_
        go_upto_region 8 with fail
        obtain ⟨G, hG⟩ : ∃ G, wd.heap.size = G := ⟨_, rfl⟩
        obtain ⟨w6, hw6⟩ : ∃ w6, wd.alloc (.cells #[.int .i64 a.c, .int .i64 b.b, .int .i64 a.d, .int .i64 b.d] 2) = w6 := ⟨_, rfl⟩
        have HI6 : Hid (ProdAt w N N B R M X Y a b p 3 w6) := Lib.hid (by rw [← hw6]; exact HID.out.keep ((Below.refl _ wd).alloc (Nat.le_refl _) _) (Nat.le_trans HL.out.1 (Nat.le_of_lt HID.out.bm.lt)))
        have HRd : Hid (ReadsInts w6 (some ⟨G, 0, none⟩) [a.c, b.b, a.d, b.d]) := Lib.hid (by rw [← hw6, ← hG]; exact reads4 _ _ _ _ _ _)
        rw [hw6, hG]
        clear hw6 hG HID x0 y0 x1 y1 x2 y2 x3 y3 q0 q1 q2 q3 q4 q5
        by_cases hr : inRange v = true
        · have HDot := Lib.hid (dot4_yes HA.out.1.2.2.1 HA.out.2.2.1 HA.out.1.2.2.2.1 HA.out.2.2.2.2.1 (by rw [HV2.out]; exact hr))
          rw [HV2.out] at HDot
          go_wp2_with fail
          refine (dot4_c G a.c b.b a.d b.d v 0 w6 HRd.out HDot.out.1 HDot.out.2).mono ?_
          rintro e w7 ⟨rfl, hb7⟩
          have HI7 := Lib.hid (HI6.out.keep hb7 (Nat.le_trans HL.out.1 (Nat.le_of_lt HI6.out.bm.lt)))
          clear hb7 HI6 HRd HDot
          go_wp2_with fail
          refine (value_ok v _).mono ?_
          rintro e w' ⟨rfl, rfl⟩
          have m0 : w7.cell? ⟨M, 3, none⟩ = some (.int .i64 0) := (HI7.out.bm.cell 3).trans rfl
          have f0 : w7.frozen? ⟨M, 3, none⟩ = false := HI7.out.bm.frozen 3
          go_wp2_with fail
          go_roundw
          case rel => exact ⟨4, by omega, by go_num, Lib.hid (HI7.out.next (by decide) HL.out.1 HL.out.2 HVK.out hr)⟩
          case measure => simp [intOf]
        · have HDot := Lib.hid (dot4_no (a := a.c) (b := b.b) (c := a.d) (d := b.d) (by rw [HV2.out]; exact hr))
          have HE := Lib.hid (show prodEnd p = gUp 2 by unfold prodEnd; rw [okM_not (k := 3) (by decide) (by rw [HVK.out]; exact hr)]; rfl)
          go_wp2_with fail
          refine (dot4_c G a.c b.b a.d b.d 0 2 w6 HRd.out HDot.out.1 HDot.out.2).mono ?_
          rintro e w7 ⟨rfl, hb7⟩
          have HI7 := Lib.hid (HI6.out.keep hb7 (Nat.le_trans HL.out.1 (Nat.le_of_lt HI6.out.bm.lt)))
          clear hb7 HI6 HRd HDot
          go_wp2_with fail
          refine (value_two 0 _).mono ?_
          rintro e w' ⟨rfl, rfl⟩
          exact ⟨rfl, HE.out.symm, HI7.out.below⟩
      · as_aux_lemma =>
        have hi : ∀ W : World, (Instr.index 68 PM (.int .i64 4)).run Tryd.prog W = .ok (.pointer (some ⟨M, 4, none⟩)) W := HP6.out 4 (by decide)
        have HD : Hid (ProdAt w N N B R M X Y a b p 4 (wr.drewN 1)) := Lib.hid (HI.out.keep (below_drewN (Below.refl _ _) 1) (Nat.le_trans HL.out.1 (Nat.le_of_lt HI.out.bm.lt)))
        obtain ⟨v, hv⟩ : ∃ v, p.at 4 = v := ⟨_, rfl⟩
        have hv2 : d6 a.e b.a a.f b.c b.e = v := by rw [← hv, ← HP.out]; rfl
        rw [show ((4 : Nat) : Int) = 4 from rfl]
        have HVK := Lib.hid hv
        have HV2 := Lib.hid hv2
        clear hv hv2 hlt hk
        go_wp2_with fail
        go_still_tail 24, (by kernel_rfl)
        obtain ⟨wd, hwd⟩ : ∃ wd, ({ heap := wr.heap, tape := wr.tape, drawn := wr.drawn + 1, os := wr.os, output := wr.output } : World) = wd := ⟨_, rfl⟩
        have HID : Hid (ProdAt w N N B R M X Y a b p 4 wd) := by rw [← hwd]; exact HD
        rw [hwd]
        clear hwd HD HI
        have x0 : wd.cell? ⟨X, 4, none⟩ = some (.pointer (some ⟨N, 4, none⟩)) := (HID.out.bx.cell 4).trans rfl
        have y0 : wd.cell? ⟨N, 4, none⟩ = some (.int .i64 a.e) := (HID.out.ba.cell 4).trans rfl
        have x1 : wd.cell? ⟨Y, 0, none⟩ = some (.pointer (some ⟨B, 0, none⟩)) := (HID.out.by_.cell 0).trans rfl
        have y1 : wd.cell? ⟨B, 0, none⟩ = some (.int .i64 b.a) := (HID.out.bb.cell 0).trans rfl
        have x2 : wd.cell? ⟨X, 5, none⟩ = some (.pointer (some ⟨N, 5, none⟩)) := (HID.out.bx.cell 5).trans rfl
        have y2 : wd.cell? ⟨N, 5, none⟩ = some (.int .i64 a.f) := (HID.out.ba.cell 5).trans rfl
        have x3 : wd.cell? ⟨Y, 2, none⟩ = some (.pointer (some ⟨B, 2, none⟩)) := (HID.out.by_.cell 2).trans rfl
        have y3 : wd.cell? ⟨B, 2, none⟩ = some (.int .i64 b.c) := (HID.out.bb.cell 2).trans rfl
        have q0 : IntKind.i64.wrap 0 = 0 := IntWalk.i64_in _ (by decide)
        have q1 : IntKind.i64.wrap 1 = 1 := IntWalk.i64_in _ (by decide)
        have q2 : IntKind.i64.wrap 2 = 2 := IntWalk.i64_in _ (by decide)
        have q3 : IntKind.i64.wrap 3 = 3 := IntWalk.i64_in _ (by decide)
        have q4 : IntKind.i64.wrap 4 = 4 := IntWalk.i64_in _ (by decide)
        have q5 : IntKind.i64.wrap 5 = 5 := IntWalk.i64_in _ (by decide)
        repeat still_step
        refine wpStill_nil ?_
        go_upto_region 8 with fail
        obtain ⟨G, hG⟩ : ∃ G, wd.heap.size = G := ⟨_, rfl⟩
        obtain ⟨w6, hw6⟩ : ∃ w6, wd.alloc (.cells #[.int .i64 a.e, .int .i64 b.a, .int .i64 a.f, .int .i64 b.c] 2) = w6 := ⟨_, rfl⟩
        have HI6 : Hid (ProdAt w N N B R M X Y a b p 4 w6) := Lib.hid (by rw [← hw6]; exact HID.out.keep ((Below.refl _ wd).alloc (Nat.le_refl _) _) (Nat.le_trans HL.out.1 (Nat.le_of_lt HID.out.bm.lt)))
        have HOw : Hid (w6.ownsRow G 2 1 (.slice (some ⟨G, 0, none⟩) 4 4) 4 [.int .i64 a.e, .int .i64 b.a, .int .i64 a.f, .int .i64 b.c]) := Lib.hid (by rw [← hw6, ← hG]; exact lit4 wd _ (Nat.le_refl _) _ _ _ _)
        have HG : Hid (w6.heap.size = G + 1 ∧ N ≤ G) := Lib.hid ⟨by rw [← hw6, World.size_alloc, hG], by rw [← hG]; exact Nat.le_trans HL.out.1 (Nat.le_of_lt HID.out.bm.lt)⟩
        have HLt : Hid (N < G ∧ B < G ∧ R < G ∧ M < G ∧ X < G ∧ Y < G) := Lib.hid (by rw [← hG]; exact ⟨HID.out.ba.lt, HID.out.bb.lt, HID.out.br.lt, HID.out.bm.lt, HID.out.bx.lt, HID.out.by_.lt⟩)
        rw [hw6, hG]
        clear hw6 hG HID x0 y0 x1 y1 x2 y2 x3 y3
        have x4 : w6.cell? ⟨Y, 4, none⟩ = some (.pointer (some ⟨B, 4, none⟩)) := (HI6.out.by_.cell 4).trans rfl
        have y4 : w6.cell? ⟨B, 4, none⟩ = some (.int .i64 b.e) := (HI6.out.bb.cell 4).trans rfl
        obtain ⟨i0, hi0, hz0, hz1, hz2⟩ := info_parts info64
        have H6s := HG.out.1
        go_wp2_with (at_builtin; refine wpList_append_lies _ rfl _ _ _ rfl G 2 i0 (.int .i64 0) 1 8 Tryd.underlying34 hi0 hz0 hz1 hz2 rfl (by decide) (.slice (some ⟨G, 0, none⟩) 4 4) 4 [.int .i64 a.e, .int .i64 b.a, .int .i64 a.f, .int .i64 b.c] rfl (by exact row_below HOw.out ((Below.refl _ w6).alloc (Nat.le_refl _) _)) ⟨G + 1, 0, none⟩ 2 2 [.int .i64 b.e, .int .i64 10000] rfl rfl (by exact new_two w6 H6s _ _ _) (by simp [Value.oneCell']) (by omega) (by unfold maxLen; omega) (by omega) (by simp [H6s]; omega) (G + 2) (by simp [H6s]) ?_; intro g cap w8 hown1 hgrow hat hlt1)
        have hb8 : Below G w6 w8 := ((Below.refl G w6).alloc (by rw [H6s]; omega) _).grown hgrow (by simp [H6s]; omega) (fun k hk => by injection hk with hk; show G ≤ k; rw [← hk]; exact Nat.le_refl _)
        have HI8 := Lib.hid (HI6.out.part hb8 HLt.out HG.out.2)
        have HRd : Hid (ReadsInts w8 (some ⟨g, 0, none⟩) [a.e, b.a, a.f, b.c, b.e, 10000]) := Lib.hid (own_reads6 hown1)
        clear hb8 hown1 hgrow hat hlt1 HI6 HOw H6s x4 y4 q0 q1 q2 q3 q4 q5
        by_cases hr : inRange v = true
        · have HDot := Lib.hid (dot6_yes HA.out.1.2.2.2.2.1 HA.out.2.1 HA.out.1.2.2.2.2.2 HA.out.2.2.2.1 HA.out.2.2.2.2.2.1 (by rw [HV2.out]; exact hr))
          rw [HV2.out] at HDot
          go_wp2_with fail
          refine (dot6_c g cap a.e b.a a.f b.c b.e v 0 w8 HRd.out HDot.out.1 HDot.out.2).mono ?_
          rintro e w7 ⟨rfl, hb7⟩
          have HI7 := Lib.hid (HI8.out.keep hb7 (Nat.le_trans HL.out.1 (Nat.le_of_lt HI8.out.bm.lt)))
          clear hb7 HI8 HRd HDot
          go_wp2_with fail
          refine (value_ok v _).mono ?_
          rintro e w' ⟨rfl, rfl⟩
          have m0 : w7.cell? ⟨M, 4, none⟩ = some (.int .i64 0) := (HI7.out.bm.cell 4).trans rfl
          have f0 : w7.frozen? ⟨M, 4, none⟩ = false := HI7.out.bm.frozen 4
          go_wp2_with fail
          go_roundw
          case rel => exact ⟨5, by omega, by go_num, Lib.hid (HI7.out.next (by decide) HL.out.1 HL.out.2 HVK.out hr)⟩
          case measure => simp [intOf]
        · have HDot := Lib.hid (dot6_no (a := a.e) (b := b.a) (c := a.f) (d := b.c) (e := b.e) (by rw [HV2.out]; exact hr))
          have HE := Lib.hid (show prodEnd p = gUp 2 by unfold prodEnd; rw [okM_not (k := 4) (by decide) (by rw [HVK.out]; exact hr)]; rfl)
          go_wp2_with fail
          refine (dot6_c g cap a.e b.a a.f b.c b.e 0 2 w8 HRd.out HDot.out.1 HDot.out.2).mono ?_
          rintro e w7 ⟨rfl, hb7⟩
          have HI7 := Lib.hid (HI8.out.keep hb7 (Nat.le_trans HL.out.1 (Nat.le_of_lt HI8.out.bm.lt)))
          clear hb7 HI8 HRd HDot
          go_wp2_with fail
          refine (value_two 0 _).mono ?_
          rintro e w' ⟨rfl, rfl⟩
          exact ⟨rfl, HE.out.symm, HI7.out.below⟩
      · as_aux_lemma =>
        have hi : ∀ W : World, (Instr.index 68 PM (.int .i64 5)).run Tryd.prog W = .ok (.pointer (some ⟨M, 5, none⟩)) W := HP6.out 5 (by decide)
        have HD : Hid (ProdAt w N N B R M X Y a b p 5 (wr.drewN 1)) := Lib.hid (HI.out.keep (below_drewN (Below.refl _ _) 1) (Nat.le_trans HL.out.1 (Nat.le_of_lt HI.out.bm.lt)))
        obtain ⟨v, hv⟩ : ∃ v, p.at 5 = v := ⟨_, rfl⟩
        have hv2 : d6 a.e b.b a.f b.d b.f = v := by rw [← hv, ← HP.out]; rfl
        rw [show ((5 : Nat) : Int) = 5 from rfl]
        have HVK := Lib.hid hv
        have HV2 := Lib.hid hv2
        clear hv hv2 hlt hk
        go_wp2_with fail
        go_still_tail 24, (by kernel_rfl)
        obtain ⟨wd, hwd⟩ : ∃ wd, ({ heap := wr.heap, tape := wr.tape, drawn := wr.drawn + 1, os := wr.os, output := wr.output } : World) = wd := ⟨_, rfl⟩
        have HID : Hid (ProdAt w N N B R M X Y a b p 5 wd) := by rw [← hwd]; exact HD
        rw [hwd]
        clear hwd HD HI
        have x0 : wd.cell? ⟨X, 4, none⟩ = some (.pointer (some ⟨N, 4, none⟩)) := (HID.out.bx.cell 4).trans rfl
        have y0 : wd.cell? ⟨N, 4, none⟩ = some (.int .i64 a.e) := (HID.out.ba.cell 4).trans rfl
        have x1 : wd.cell? ⟨Y, 1, none⟩ = some (.pointer (some ⟨B, 1, none⟩)) := (HID.out.by_.cell 1).trans rfl
        have y1 : wd.cell? ⟨B, 1, none⟩ = some (.int .i64 b.b) := (HID.out.bb.cell 1).trans rfl
        have x2 : wd.cell? ⟨X, 5, none⟩ = some (.pointer (some ⟨N, 5, none⟩)) := (HID.out.bx.cell 5).trans rfl
        have y2 : wd.cell? ⟨N, 5, none⟩ = some (.int .i64 a.f) := (HID.out.ba.cell 5).trans rfl
        have x3 : wd.cell? ⟨Y, 3, none⟩ = some (.pointer (some ⟨B, 3, none⟩)) := (HID.out.by_.cell 3).trans rfl
        have y3 : wd.cell? ⟨B, 3, none⟩ = some (.int .i64 b.d) := (HID.out.bb.cell 3).trans rfl
        have q0 : IntKind.i64.wrap 0 = 0 := IntWalk.i64_in _ (by decide)
        have q1 : IntKind.i64.wrap 1 = 1 := IntWalk.i64_in _ (by decide)
        have q2 : IntKind.i64.wrap 2 = 2 := IntWalk.i64_in _ (by decide)
        have q3 : IntKind.i64.wrap 3 = 3 := IntWalk.i64_in _ (by decide)
        have q4 : IntKind.i64.wrap 4 = 4 := IntWalk.i64_in _ (by decide)
        have q5 : IntKind.i64.wrap 5 = 5 := IntWalk.i64_in _ (by decide)
        repeat still_step
        refine wpStill_nil ?_
        go_upto_region 8 with fail
        obtain ⟨G, hG⟩ : ∃ G, wd.heap.size = G := ⟨_, rfl⟩
        obtain ⟨w6, hw6⟩ : ∃ w6, wd.alloc (.cells #[.int .i64 a.e, .int .i64 b.b, .int .i64 a.f, .int .i64 b.d] 2) = w6 := ⟨_, rfl⟩
        have HI6 : Hid (ProdAt w N N B R M X Y a b p 5 w6) := Lib.hid (by rw [← hw6]; exact HID.out.keep ((Below.refl _ wd).alloc (Nat.le_refl _) _) (Nat.le_trans HL.out.1 (Nat.le_of_lt HID.out.bm.lt)))
        have HOw : Hid (w6.ownsRow G 2 1 (.slice (some ⟨G, 0, none⟩) 4 4) 4 [.int .i64 a.e, .int .i64 b.b, .int .i64 a.f, .int .i64 b.d]) := Lib.hid (by rw [← hw6, ← hG]; exact lit4 wd _ (Nat.le_refl _) _ _ _ _)
        have HG : Hid (w6.heap.size = G + 1 ∧ N ≤ G) := Lib.hid ⟨by rw [← hw6, World.size_alloc, hG], by rw [← hG]; exact Nat.le_trans HL.out.1 (Nat.le_of_lt HID.out.bm.lt)⟩
        have HLt : Hid (N < G ∧ B < G ∧ R < G ∧ M < G ∧ X < G ∧ Y < G) := Lib.hid (by rw [← hG]; exact ⟨HID.out.ba.lt, HID.out.bb.lt, HID.out.br.lt, HID.out.bm.lt, HID.out.bx.lt, HID.out.by_.lt⟩)
        rw [hw6, hG]
        clear hw6 hG HID x0 y0 x1 y1 x2 y2 x3 y3
        have x4 : w6.cell? ⟨Y, 5, none⟩ = some (.pointer (some ⟨B, 5, none⟩)) := (HI6.out.by_.cell 5).trans rfl
        have y4 : w6.cell? ⟨B, 5, none⟩ = some (.int .i64 b.f) := (HI6.out.bb.cell 5).trans rfl
        obtain ⟨i0, hi0, hz0, hz1, hz2⟩ := info_parts info64
        have H6s := HG.out.1
        go_wp2_with (at_builtin; refine wpList_append_lies _ rfl _ _ _ rfl G 2 i0 (.int .i64 0) 1 8 Tryd.underlying34 hi0 hz0 hz1 hz2 rfl (by decide) (.slice (some ⟨G, 0, none⟩) 4 4) 4 [.int .i64 a.e, .int .i64 b.b, .int .i64 a.f, .int .i64 b.d] rfl (by exact row_below HOw.out ((Below.refl _ w6).alloc (Nat.le_refl _) _)) ⟨G + 1, 0, none⟩ 2 2 [.int .i64 b.f, .int .i64 10000] rfl rfl (by exact new_two w6 H6s _ _ _) (by simp [Value.oneCell']) (by omega) (by unfold maxLen; omega) (by omega) (by simp [H6s]; omega) (G + 2) (by simp [H6s]) ?_; intro g cap w8 hown1 hgrow hat hlt1)
        have hb8 : Below G w6 w8 := ((Below.refl G w6).alloc (by rw [H6s]; omega) _).grown hgrow (by simp [H6s]; omega) (fun k hk => by injection hk with hk; show G ≤ k; rw [← hk]; exact Nat.le_refl _)
        have HI8 := Lib.hid (HI6.out.part hb8 HLt.out HG.out.2)
        have HRd : Hid (ReadsInts w8 (some ⟨g, 0, none⟩) [a.e, b.b, a.f, b.d, b.f, 10000]) := Lib.hid (own_reads6 hown1)
        clear hb8 hown1 hgrow hat hlt1 HI6 HOw H6s x4 y4 q0 q1 q2 q3 q4 q5
        by_cases hr : inRange v = true
        · have HDot := Lib.hid (dot6_yes HA.out.1.2.2.2.2.1 HA.out.2.2.1 HA.out.1.2.2.2.2.2 HA.out.2.2.2.2.1 HA.out.2.2.2.2.2.2 (by rw [HV2.out]; exact hr))
          rw [HV2.out] at HDot
          go_wp2_with fail
          refine (dot6_c g cap a.e b.b a.f b.d b.f v 0 w8 HRd.out HDot.out.1 HDot.out.2).mono ?_
          rintro e w7 ⟨rfl, hb7⟩
          have HI7 := Lib.hid (HI8.out.keep hb7 (Nat.le_trans HL.out.1 (Nat.le_of_lt HI8.out.bm.lt)))
          clear hb7 HI8 HRd HDot
          go_wp2_with fail
          refine (value_ok v _).mono ?_
          rintro e w' ⟨rfl, rfl⟩
          have m0 : w7.cell? ⟨M, 5, none⟩ = some (.int .i64 0) := (HI7.out.bm.cell 5).trans rfl
          have f0 : w7.frozen? ⟨M, 5, none⟩ = false := HI7.out.bm.frozen 5
          go_wp2_with fail
          go_roundw
          case rel => exact ⟨6, by omega, by go_num, Lib.hid (HI7.out.next (by decide) HL.out.1 HL.out.2 HVK.out hr)⟩
          case measure => simp [intOf]
        · have HDot := Lib.hid (dot6_no (a := a.e) (b := b.b) (c := a.f) (d := b.d) (e := b.f) (by rw [HV2.out]; exact hr))
          have HE := Lib.hid (show prodEnd p = gUp 2 by unfold prodEnd; rw [okM_not (k := 5) (by decide) (by rw [HVK.out]; exact hr)]; rfl)
          go_wp2_with fail
          refine (dot6_c g cap a.e b.b a.f b.d b.f 0 2 w8 HRd.out HDot.out.1 HDot.out.2).mono ?_
          rintro e w7 ⟨rfl, hb7⟩
          have HI7 := Lib.hid (HI8.out.keep hb7 (Nat.le_trans HL.out.1 (Nat.le_of_lt HI8.out.bm.lt)))
          clear hb7 HI8 HRd HDot
          go_wp2_with fail
          refine (value_two 0 _).mono ?_
          rintro e w' ⟨rfl, rfl⟩
          exact ⟨rfl, HE.out.symm, HI7.out.below⟩
    · obtain rfl : k = 6 := by omega
      have HE := Lib.hid (show prodEnd p = .returned (mxV p) by unfold prodEnd; rw [okM_at HI.out.ok]; rfl)
      obtain ⟨⟨c0, c1, c2, c3, c4, c5⟩, ⟨f0, f1, f2, f3, f4, f5⟩⟩ := six_cells (show Blk wr M 23 #[.int .i64 p.a, .int .i64 p.b, .int .i64 p.c, .int .i64 p.d, .int .i64 p.e, .int .i64 p.f] from HI.out.bm)
      obtain ⟨⟨d0, d1, d2, d3, d4, d5⟩, ⟨g0, g1, g2, g3, g4, g5⟩⟩ := six_cells HI.out.br
      have HB := Lib.hid HI.out.below
      rw [show ((6 : Nat) : Int) = 6 from rfl]
      clear hlt hk
      go_wp2_with fail
      exact bodyPost_ret (v := .agg #[.int .i64 p.a, .int .i64 p.b, .int .i64 p.c, .int .i64 p.d, .int .i64 p.e, .int .i64 p.f]) (by simp [results, Tryd.results60, go_sem, d0, d1, d2, d3, d4, d5]) rfl ⟨HE.out.symm, below_six HB.out HNR0.out _ _ _ _ _ _⟩
end Go.Proofs.YtbagmjedkcipgaaDoor
