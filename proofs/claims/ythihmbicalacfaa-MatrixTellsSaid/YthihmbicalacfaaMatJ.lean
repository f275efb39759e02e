/-
  matrix: Read: the matrix that an array stands for.
-/
import Derived.Test.YthihmbicalacfaaMatI
import Derived.Test.YthihmbicalacfaaMatC
namespace Go.Proofs.Ythihmbicalacfaa
open Go.RowKit Fix Mat

/-- A row of objects: the kind and the number of each are known. -/
def NumRow (w : World) (A : Option Addr) (l : List (Int × Int)) : Prop := ∀ j (h : j < l.length), ∃ (b off : Nat) (g : Int) (s : ByteArray) (v5 v6 : Value), A = some ⟨b, off, none⟩ ∧
  w.cell? ⟨b, off + j * 6, none⟩ = some (.int .i64 l[j].1) ∧ w.cell? ⟨b, off + j * 6 + 1, none⟩ = some (.int .i64 l[j].2) ∧ w.cell? ⟨b, off + j * 6 + 2, none⟩ = some (.int .i64 g) ∧
  w.cell? ⟨b, off + j * 6 + 3, none⟩ = some (.string s) ∧ w.cell? ⟨b, off + j * 6 + 4, none⟩ = some v5 ∧ w.cell? ⟨b, off + j * 6 + 5, none⟩ = some v6
theorem NumRow.below {B : Nat} {w w' : World} {A : Option Addr} {l : List (Int × Int)} (h : NumRow w A l) (hb : Below B w w') (hB : w.heap.size ≤ B) : NumRow w' A l := fun j hj => by
  obtain ⟨b, off, g, s, v5, v6, e, h0, h1, h2, h3, h4, h5⟩ := h j hj
  have hlt : b < B := Nat.lt_of_lt_of_le (World.block_lt_of_cell? w _ h0) hB
  exact ⟨b, off, g, s, v5, v6, e, (hb.cell (p := ⟨b, _, none⟩) hlt).trans h0, (hb.cell (p := ⟨b, _, none⟩) hlt).trans h1, (hb.cell (p := ⟨b, _, none⟩) hlt).trans h2, (hb.cell (p := ⟨b, _, none⟩) hlt).trans h3, (hb.cell (p := ⟨b, _, none⟩) hlt).trans h4, (hb.cell (p := ⟨b, _, none⟩) hlt).trans h5⟩
theorem NumRow.of_row {w : World} {g : Nat} {l : List (Int × Int)} (h : ORow w g l) : NumRow w (some ⟨g, 0, none⟩) l := fun j hj => by
  obtain ⟨h0, h1, h2, h3, h4, h5⟩ := h.six hj
  exact ⟨g, 0, 0, ⟨#[]⟩, _, _, rfl, by rw [Nat.zero_add]; exact h0, by rw [Nat.zero_add]; exact h1, by rw [Nat.zero_add]; exact h2, by rw [Nat.zero_add]; exact h3, by rw [Nat.zero_add]; exact h4, by rw [Nat.zero_add]; exact h5⟩

/-- The units of element j. -/
def uAt (l : List (Int × Int)) (j : Nat) : Int := unitsOf (l.getD j (0, 0)).1 (l.getD j (0, 0)).2
def mxOf (l : List (Int × Int)) : Mx := ⟨uAt l 0, uAt l 1, uAt l 2, uAt l 3, uAt l 4, uAt l 5⟩
theorem mxOf_at (l : List (Int × Int)) {k : Nat} (h : k < 6) : (mxOf l).at k = uAt l k := by
  rcases six h with rfl | rfl | rfl | rfl | rfl | rfl <;> rfl
theorem uAt_in (l : List (Int × Int)) {k : Nat} (h : k < l.length) : uAt l k = unitsOf l[k].1 l[k].2 := by unfold uAt; simp [h]
def allNum (l : List (Int × Int)) : Bool := l.all fun p => isNum p.1 p.2
theorem allNum_at {l : List (Int × Int)} (h : ∀ j (hj : j < l.length), isNum l[j].1 l[j].2 = true) : allNum l = true := by
  unfold allNum
  rw [List.all_eq_true]
  intro p hp
  obtain ⟨j, hj, rfl⟩ := List.getElem_of_mem hp
  exact h j hj
theorem allNum_not {l : List (Int × Int)} {j : Nat} (hj : j < l.length) (h : ¬ isNum l[j].1 l[j].2 = true) : allNum l = false := by
  refine Bool.eq_false_iff.2 fun ha => h ?_
  unfold allNum at ha
  rw [List.all_eq_true] at ha
  exact ha _ (List.getElem_mem hj)
/-- What Read makes of six elements. -/
def readQ (l : List (Int × Int)) : Mx := if allNum l then mxOf l else zeroM
def readX (l : List (Int × Int)) : Int := if allNum l then 0 else 3
/-- A coefficient more. -/
theorem part_next {w : World} {M : Nat} {q : Mx} {k : Nat} {t : TypeId} (h : Blk w M t (mxC (partM q k))) (hk : k < 6) {v : Int} (hv : q.at k = v) : Blk (w.setCell ⟨M, k, none⟩ (.int .i64 v)) M t (mxC (partM q (k + 1))) := by
  have hs := h.set_ k (.int .i64 v)
  rw [← hv] at hs ⊢
  rcases six hk with rfl | rfl | rfl | rfl | rfl | rfl <;> exact hs

set_option maxRecDepth 100000 in
set_option maxHeartbeats 1000000 in
theorem read_kind (kd nn gg : Int) (ss : ByteArray) (v5 v6 : Value) (w : World) (hk : kd ≠ 6) :
    Calls Try.prog 19 #[.agg #[.int .i64 kd, .int .i64 nn, .int .i64 gg, .string ss, v5, v6]] w fun e w' => e = mxR zeroM 10 ∧ Below w.heap.size w w' := by
  unfold mxR mxV zeroM
  obtain ⟨N, hN⟩ : ∃ N, w.heap.size = N := ⟨_, rfl⟩
  obtain ⟨R, hR⟩ : ∃ R, N + 1 = R := ⟨_, rfl⟩
  obtain ⟨V, hV⟩ : ∃ V, (w.alloc (.cells #[.int .i64 kd, .int .i64 nn, .int .i64 gg, .string ss, v5, v6] 31)).alloc (.cells #[.int .i64 0, .int .i64 0, .int .i64 0, .int .i64 0, .int .i64 0, .int .i64 0] 23) = V := ⟨_, rfl⟩
  have hVs : V.heap.size = R + 1 := by rw [← hV]; simp [hN]; omega
  have bA : Blk V N 31 #[.int .i64 kd, .int .i64 nn, .int .i64 gg, .string ss, v5, v6] := by
    rw [← hV, ← hN]
    exact (Blk.new w _ _).alloc _
  have bB : Blk V R 23 #[.int .i64 0, .int .i64 0, .int .i64 0, .int .i64 0, .int .i64 0, .int .i64 0] := by
    rw [← hV]
    have := Blk.new (w.alloc (.cells #[.int .i64 kd, .int .i64 nn, .int .i64 gg, .string ss, v5, v6] 31)) 23 #[.int .i64 0, .int .i64 0, .int .i64 0, .int .i64 0, .int .i64 0, .int .i64 0]
    rw [World.size_alloc, hN, hR] at this
    exact this
  have hBV : Below N w V := by rw [← hV, ← hN]; exact ((Below.refl _ w).alloc (Nat.le_refl _) _).alloc (by simp) _
  have HB := Lib.hid hBV
  have HNR := Lib.hid (show N ≤ R by omega)
  obtain ⟨⟨a0, a1, a2, a3, a4, a5⟩, _⟩ := six_cells bA
  obtain ⟨⟨c0, c1, c2, c3, c4, c5⟩, ⟨f0, f1, f2, f3, f4, f5⟩⟩ := six_cells bB
  rw [hN]
  go_enter Try.func19, Try.ntmps19
  go_upto_region 1 with fail
  clear bA bB hV hN hVs hR hBV
  go_wp2_with fail
  exact bodyPost_ret (v := .tuple #[.agg #[.int .i64 0, .int .i64 0, .int .i64 0, .int .i64 0, .int .i64 0, .int .i64 0], .int .i64 10]) (by simp [results, Try.results19, go_sem, c0, c1, c2, c3, c4, c5]) rfl ⟨rfl, below_six HB.out HNR.out _ _ _ _ _ _⟩

set_option maxRecDepth 100000 in
set_option maxHeartbeats 1000000 in
theorem read_form (nn gg : Int) (ss : ByteArray) (v5 : Value) (ka : Option Addr) (kl kc : Nat) (w : World) (hk : kl ≠ 6) :
    Calls Try.prog 19 #[.agg #[.int .i64 6, .int .i64 nn, .int .i64 gg, .string ss, v5, .slice ka kl kc]] w fun e w' => e = mxR zeroM 3 ∧ Below w.heap.size w w' := by
  unfold mxR mxV zeroM
  obtain ⟨N, hN⟩ : ∃ N, w.heap.size = N := ⟨_, rfl⟩
  obtain ⟨R, hR⟩ : ∃ R, N + 1 = R := ⟨_, rfl⟩
  obtain ⟨V, hV⟩ : ∃ V, (w.alloc (.cells #[.int .i64 6, .int .i64 nn, .int .i64 gg, .string ss, v5, .slice ka kl kc] 31)).alloc (.cells #[.int .i64 0, .int .i64 0, .int .i64 0, .int .i64 0, .int .i64 0, .int .i64 0] 23) = V := ⟨_, rfl⟩
  have hVs : V.heap.size = R + 1 := by rw [← hV]; simp [hN]; omega
  have bA : Blk V N 31 #[.int .i64 6, .int .i64 nn, .int .i64 gg, .string ss, v5, .slice ka kl kc] := by
    rw [← hV, ← hN]
    exact (Blk.new w _ _).alloc _
  have bB : Blk V R 23 #[.int .i64 0, .int .i64 0, .int .i64 0, .int .i64 0, .int .i64 0, .int .i64 0] := by
    rw [← hV]
    have := Blk.new (w.alloc (.cells #[.int .i64 6, .int .i64 nn, .int .i64 gg, .string ss, v5, .slice ka kl kc] 31)) 23 #[.int .i64 0, .int .i64 0, .int .i64 0, .int .i64 0, .int .i64 0, .int .i64 0]
    rw [World.size_alloc, hN, hR] at this
    exact this
  have hBV : Below N w V := by rw [← hV, ← hN]; exact ((Below.refl _ w).alloc (Nat.le_refl _) _).alloc (by simp) _
  have HB := Lib.hid hBV
  have HNR := Lib.hid (show N ≤ R by omega)
  have hk2 : ((kl : Int) == 6) = false := by simp; omega
  obtain ⟨⟨a0, a1, a2, a3, a4, a5⟩, _⟩ := six_cells bA
  obtain ⟨⟨c0, c1, c2, c3, c4, c5⟩, ⟨f0, f1, f2, f3, f4, f5⟩⟩ := six_cells bB
  rw [hN]
  go_enter Try.func19, Try.ntmps19
  go_upto_region 1 with fail
  clear bA bB hV hN hVs hR hBV
  go_wp2_with fail
  exact bodyPost_ret (v := .tuple #[.agg #[.int .i64 0, .int .i64 0, .int .i64 0, .int .i64 0, .int .i64 0, .int .i64 0], .int .i64 3]) (by simp [results, Try.results19, go_sem, c0, c1, c2, c3, c4, c5]) rfl ⟨rfl, below_six HB.out HNR.out _ _ _ _ _ _⟩

/-- What Read's rounds know. -/
structure ReadAt (w : World) (N R M : Nat) (oc : Array Value) (l : List (Int × Int)) (k : Nat) (wr : World) : Prop where
  bo : Blk wr N 31 oc
  br : Blk wr R 23 #[.int .i64 0, .int .i64 0, .int .i64 0, .int .i64 0, .int .i64 0, .int .i64 0]
  bm : Blk wr M 23 (mxC (partM (mxOf l) k))
  below : Below N w wr
  ok : ∀ j (hj : j < l.length), j < k → isNum l[j].1 l[j].2 = true
theorem ReadAt.keep {w : World} {N R M : Nat} {oc : Array Value} {l : List (Int × Int)} {k : Nat} {wr w' : World} (h : ReadAt w N R M oc l k wr) (hb : Below wr.heap.size wr w') (hN : N ≤ wr.heap.size) : ReadAt w N R M oc l k w' :=
  ⟨h.bo.below hb h.bo.lt, h.br.below hb h.br.lt, h.bm.below hb h.bm.lt, h.below.trans (hb.mono hN), h.ok⟩

set_option maxRecDepth 100000 in
set_option maxHeartbeats 8000000 in
theorem read_six (nn gg : Int) (ss : ByteArray) (v5 : Value) (ka : Option Addr) (kc : Nat) (l : List (Int × Int)) (w : World) (hl : l.length = 6) (hrow : NumRow w ka l) :
    Calls Try.prog 19 #[.agg #[.int .i64 6, .int .i64 nn, .int .i64 gg, .string ss, v5, .slice ka 6 kc]] w fun e w' => e = mxR (readQ l) (readX l) ∧ Below w.heap.size w w' := by
  obtain ⟨N, hN⟩ : ∃ N, w.heap.size = N := ⟨_, rfl⟩
  obtain ⟨R, hR⟩ : ∃ R, N + 1 = R := ⟨_, rfl⟩
  obtain ⟨V, hV⟩ : ∃ V, (w.alloc (.cells #[.int .i64 6, .int .i64 nn, .int .i64 gg, .string ss, v5, .slice ka 6 kc] 31)).alloc (.cells #[.int .i64 0, .int .i64 0, .int .i64 0, .int .i64 0, .int .i64 0, .int .i64 0] 23) = V := ⟨_, rfl⟩
  have hVs : V.heap.size = R + 1 := by rw [← hV]; simp [hN]; omega
  have bA : Blk V N 31 #[.int .i64 6, .int .i64 nn, .int .i64 gg, .string ss, v5, .slice ka 6 kc] := by
    rw [← hV, ← hN]
    exact (Blk.new w _ _).alloc _
  have bB : Blk V R 23 #[.int .i64 0, .int .i64 0, .int .i64 0, .int .i64 0, .int .i64 0, .int .i64 0] := by
    rw [← hV]
    have := Blk.new (w.alloc (.cells #[.int .i64 6, .int .i64 nn, .int .i64 gg, .string ss, v5, .slice ka 6 kc] 31)) 23 #[.int .i64 0, .int .i64 0, .int .i64 0, .int .i64 0, .int .i64 0, .int .i64 0]
    rw [World.size_alloc, hN, hR] at this
    exact this
  have hBV : Below N w V := by rw [← hV, ← hN]; exact ((Below.refl _ w).alloc (Nat.le_refl _) _).alloc (by simp) _
  obtain ⟨M, hM⟩ : ∃ M, R + 1 = M := ⟨_, rfl⟩
  obtain ⟨U, hU⟩ : ∃ U, V.alloc (.cells #[.int .i64 0, .int .i64 0, .int .i64 0, .int .i64 0, .int .i64 0, .int .i64 0] 23) = U := ⟨_, rfl⟩
  have hUs : U.heap.size = M + 1 := by rw [← hU, World.size_alloc, hVs, hM]
  have HI0 : Hid (ReadAt w N R M #[.int .i64 6, .int .i64 nn, .int .i64 gg, .string ss, v5, .slice ka 6 kc] l 0 U) := Lib.hid (by
    refine ⟨by rw [← hU]; exact bA.alloc _, by rw [← hU]; exact bB.alloc _, ?_, by rw [← hU]; exact hBV.alloc (by omega) _, fun j hj h => absurd h (Nat.not_lt_zero _)⟩
    · rw [← hU]
      have := Blk.new V 23 #[.int .i64 0, .int .i64 0, .int .i64 0, .int .i64 0, .int .i64 0, .int .i64 0]
      rw [hVs, hM] at this
      exact this)
  have HRow := Lib.hid (And.intro hrow (Nat.le_of_eq hN))
  have HNR := Lib.hid (show N ≤ R ∧ N ≤ M ∧ N ≠ M ∧ R ≠ M by omega)
  have HUs := Lib.hid hUs
  have HL := Lib.hid hl
  obtain ⟨⟨a0, a1, a2, a3, a4, a5⟩, _⟩ := six_cells bA
  rw [hN]
  go_enter Try.func19, Try.ntmps19
  go_upto_region 6 with fail
  clear bA bB hV hN hVs hR hBV hM hU hUs a0 a1 a2 a3 a4 a5 hl hrow
  go_wp2_with fail
  refine (cells_any M U).mono ?_
  rintro e w2 ⟨rfl, hb⟩
  have HI2 := Lib.hid (HI0.out.keep hb (Nat.le_of_lt HI0.out.bo.lt))
  obtain ⟨P, hP⟩ : ∃ P, ptrs M = P := ⟨_, rfl⟩
  have HP := Lib.hid (fun k (h : k < 6) (W : World) => hP ▸ ptrs_at M k h W)
  rw [hP]
  clear hb hP HI0
  go_wp2_with fail
  go_loopw [19] (fun i wr => ∃ k : Nat, k ≤ 6 ∧ i = .int .i64 (k : Int) ∧ Hid (ReadAt w N R M #[.int .i64 6, .int .i64 nn, .int .i64 gg, .string ss, v5, .slice ka 6 kc] l k wr)) (fun i _ => 6 - (intOf i).toNat)
  case atStart => exact ⟨0, by omega, rfl, HI2⟩
  case round =>
    clear HI2
    obtain ⟨k, hk, rfl, HI⟩ := hrel
    by_cases hlt : k < 6
    · have hkl : k < l.length := by rw [HL.out]; exact hlt
      have hi := HP.out k hlt
      have hik : (k : Int) < 6 := by omega
      have hik0 : (0 : Int) ≤ (k : Int) := by omega
      obtain ⟨b, off, g, s, v5', v6', rfl, r0, r1, r2, r3, r4, r5⟩ := HRow.out.1.below HI.out.below HRow.out.2 k hkl
      obtain ⟨⟨_, _, _, _, _, t5⟩, _⟩ := six_cells HI.out.bo
      obtain ⟨x, hx⟩ : ∃ x, l[k].1 = x := ⟨_, rfl⟩
      obtain ⟨y, hy⟩ : ∃ y, l[k].2 = y := ⟨_, rfl⟩
      rw [hx] at r0
      rw [hy] at r1
      have HK := Lib.hid (And.intro hlt (And.intro hx hy))
      have HKn := Lib.hid (show isNum l[k].1 l[k].2 = isNum x y by rw [hx, hy])
      have HKl := Lib.hid hkl
      have hku := (mxOf_at l hlt).trans (uAt_in l hkl)
      rw [hx, hy] at hku
      have HNum := Lib.hid (number_any x y g s v5' v6' wr)
      obtain ⟨u, hu⟩ : ∃ u, unitsOf x y = u := ⟨_, rfl⟩
      rw [hu] at HNum hku
      have HKu := Lib.hid hku
      have hcm : wr.cell? ⟨M, k, none⟩ = some (.int .i64 ((partM (mxOf l) k).at k)) := (HI.out.bm.cell k).trans (mxC_at _ hlt)
      by_cases hn : isNum x y = true
      · rw [hn] at HNum
        have HN := Lib.hid (HKn.out.trans hn)
        clear hn hu hku hx hy hlt hk hcm
        go_wp2_with fail
        refine HNum.out.mono ?_
        rintro e w3 ⟨rfl, hb⟩
        have HI3 := Lib.hid (HI.out.keep hb (Nat.le_of_lt HI.out.bo.lt))
        clear hb r0 r1 r2 r3 r4 r5 t5 HI HNum
        have m0 : w3.cell? ⟨M, k, none⟩ = some (.int .i64 ((partM (mxOf l) k).at k)) := (HI3.out.bm.cell k).trans (mxC_at _ HK.out.1)
        have f0 : w3.frozen? ⟨M, k, none⟩ = false := HI3.out.bm.frozen k
        go_wp2_with fail
        have HI4 : Hid (ReadAt w N R M #[.int .i64 6, .int .i64 nn, .int .i64 gg, .string ss, v5, .slice (some ⟨b, off, none⟩) 6 kc] l (k + 1) (w3.setCell ⟨M, k, none⟩ (.int .i64 u))) := Lib.hid (by
          refine ⟨HI3.out.bo.far (p := ⟨M, k, none⟩) HNR.out.2.2.1 _, HI3.out.br.far (p := ⟨M, k, none⟩) HNR.out.2.2.2 _, part_next HI3.out.bm HK.out.1 HKu.out, HI3.out.below.setCell (p := ⟨M, k, none⟩) HNR.out.2.1 _, fun j hj hjk => ?_⟩
          by_cases h : j < k
          · exact HI3.out.ok j hj h
          · obtain rfl : j = k := by omega
            exact HN.out)
        go_roundw
        case rel => exact ⟨k + 1, by have := HK.out.1; omega, by go_num, HI4⟩
        case measure => simp [intOf]; have := HK.out.1; omega
      · rw [Bool.eq_false_iff.2 hn] at HNum
        have HF := Lib.hid (allNum_not HKl.out (fun h => hn (HKn.out.symm.trans h)))
        have HE := Lib.hid (show mxR (readQ l) (readX l) = .returned (.tuple #[.agg #[.int .i64 0, .int .i64 0, .int .i64 0, .int .i64 0, .int .i64 0, .int .i64 0], .int .i64 3]) by unfold readQ readX; rw [HF.out]; rfl)
        clear hn hu hku hx hy hlt hk hcm
        go_wp2_with fail
        refine HNum.out.mono ?_
        rintro e w3 ⟨rfl, hb⟩
        obtain ⟨⟨c0, c1, c2, c3, c4, c5⟩, ⟨f0, f1, f2, f3, f4, f5⟩⟩ := six_cells (HI.out.br.below hb HI.out.br.lt)
        have HB := Lib.hid (HI.out.below.trans (hb.mono (Nat.le_of_lt HI.out.bo.lt)))
        clear hb r0 r1 r2 r3 r4 r5 t5 HI HNum
        go_wp2_with fail
        exact bodyPost_ret (v := .tuple #[.agg #[.int .i64 0, .int .i64 0, .int .i64 0, .int .i64 0, .int .i64 0, .int .i64 0], .int .i64 3]) (by simp [results, Try.results19, go_sem, c0, c1, c2, c3, c4, c5]) rfl ⟨HE.out.symm, below_six HB.out HNR.out.1 _ _ _ _ _ _⟩
    · obtain rfl : k = 6 := by omega
      have HF := Lib.hid (allNum_at (l := l) (fun j hj => HI.out.ok j hj (by rw [HL.out] at hj; exact hj)))
      obtain ⟨q, hq⟩ : ∃ q, mxOf l = q := ⟨_, rfl⟩
      have HE := Lib.hid (show mxR (readQ l) (readX l) = .returned (.tuple #[mxV q, .int .i64 0]) by unfold readQ readX; rw [HF.out, ← hq]; rfl)
      have hbm := HI.out.bm
      rw [hq] at hbm
      obtain ⟨⟨b0, b1, b2, b3, b4, b5⟩, _⟩ := six_cells (show Blk wr M 23 #[.int .i64 q.a, .int .i64 q.b, .int .i64 q.c, .int .i64 q.d, .int .i64 q.e, .int .i64 q.f] from hbm)
      obtain ⟨⟨c0, c1, c2, c3, c4, c5⟩, ⟨f0, f1, f2, f3, f4, f5⟩⟩ := six_cells HI.out.br
      have HB := Lib.hid HI.out.below
      unfold mxV at HE
      rw [show ((6 : Nat) : Int) = 6 from rfl]
      clear hlt hk hq hbm HI
      go_wp2_with fail
      exact bodyPost_ret (v := .tuple #[.agg #[.int .i64 q.a, .int .i64 q.b, .int .i64 q.c, .int .i64 q.d, .int .i64 q.e, .int .i64 q.f], .int .i64 0]) (by simp [results, Try.results19, go_sem, c0, c1, c2, c3, c4, c5]) rfl ⟨HE.out.symm, below_six HB.out HNR.out.1 _ _ _ _ _ _⟩
end Go.Proofs.Ythihmbicalacfaa
