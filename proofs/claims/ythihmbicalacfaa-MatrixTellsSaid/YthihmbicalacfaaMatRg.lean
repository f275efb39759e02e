/-
  matrix, the document's: Read.
-/
import Derived.Test.YthihmbicalacfaaMatRf
namespace Go.Proofs.Ythihmbicalacfaa
open Go.RowKit Fix Mat

set_option maxRecDepth 100000 in
set_option maxHeartbeats 1000000 in
theorem read42_kind (kd nn gg : Int) (ss : ByteArray) (v5 v6 : Value) (w : World) (hk : kd ≠ 6) :
    Calls Try.prog 20 #[.agg #[.int .i64 kd, .int .i64 nn, .int .i64 gg, .string ss, v5, v6]] w fun e w' => e = mxR zeroM 10 ∧ Below w.heap.size w w' := by
  unfold mxR mxV zeroM
  obtain ⟨N, hN⟩ : ∃ N, w.heap.size = N := ⟨_, rfl⟩
  obtain ⟨R, hR⟩ : ∃ R, N + 1 = R := ⟨_, rfl⟩
  obtain ⟨V, hV⟩ : ∃ V, (w.alloc (.cells #[.int .i64 kd, .int .i64 nn, .int .i64 gg, .string ss, v5, v6] 31)).alloc (.cells #[.int .i64 0, .int .i64 0, .int .i64 0, .int .i64 0, .int .i64 0, .int .i64 0] 23) = V := ⟨_, rfl⟩
  have hVs : V.heap.size = R + 1 := by rw [← hV]; simp [hN]; omega
  have bA : Blk V N 31 #[.int .i64 kd, .int .i64 nn, .int .i64 gg, .string ss, v5, v6] := by
    rw [← hV, ← hN]
    exact (Blk.new w _ _).alloc _
  have bB : Blk V R 23 #[.int .i64 0, .int .i64 0, .int .i64 0, .int .i64 0, .int .i64 0, .int .i64 0] := by
    rw [← hV]
    have := Blk.new (w.alloc (.cells #[.int .i64 kd, .int .i64 nn, .int .i64 gg, .string ss, v5, v6] 31)) 23 #[.int .i64 0, .int .i64 0, .int .i64 0, .int .i64 0, .int .i64 0, .int .i64 0]
    rw [World.size_alloc, hN, hR] at this
    exact this
  have hBV : Below N w V := by rw [← hV, ← hN]; exact ((Below.refl _ w).alloc (Nat.le_refl _) _).alloc (by simp) _
  have HB := Lib.hid hBV
  have HNR := Lib.hid (show N ≤ R by omega)
  obtain ⟨⟨a0, a1, a2, a3, a4, a5⟩, _⟩ := six_cells bA
  obtain ⟨⟨c0, c1, c2, c3, c4, c5⟩, ⟨f0, f1, f2, f3, f4, f5⟩⟩ := six_cells bB
  rw [hN]
  go_enter Try.func20, Try.ntmps20
  go_upto_region 1 with fail
  clear bA bB hV hN hVs hR hBV
  go_wp2_with fail
  exact bodyPost_ret (v := .tuple #[.agg #[.int .i64 0, .int .i64 0, .int .i64 0, .int .i64 0, .int .i64 0, .int .i64 0], .int .i64 10]) (by simp [results, Try.results20, go_sem, c0, c1, c2, c3, c4, c5]) rfl ⟨rfl, below_six HB.out HNR.out _ _ _ _ _ _⟩

set_option maxRecDepth 100000 in
set_option maxHeartbeats 1000000 in
theorem read42_form (nn gg : Int) (ss : ByteArray) (v5 : Value) (ka : Option Addr) (kl kc : Nat) (w : World) (hk : kl ≠ 6) :
    Calls Try.prog 20 #[.agg #[.int .i64 6, .int .i64 nn, .int .i64 gg, .string ss, v5, .slice ka kl kc]] w fun e w' => e = mxR zeroM 3 ∧ Below w.heap.size w w' := by
  unfold mxR mxV zeroM
  obtain ⟨N, hN⟩ : ∃ N, w.heap.size = N := ⟨_, rfl⟩
  obtain ⟨R, hR⟩ : ∃ R, N + 1 = R := ⟨_, rfl⟩
  obtain ⟨V, hV⟩ : ∃ V, (w.alloc (.cells #[.int .i64 6, .int .i64 nn, .int .i64 gg, .string ss, v5, .slice ka kl kc] 31)).alloc (.cells #[.int .i64 0, .int .i64 0, .int .i64 0, .int .i64 0, .int .i64 0, .int .i64 0] 23) = V := ⟨_, rfl⟩
  have hVs : V.heap.size = R + 1 := by rw [← hV]; simp [hN]; omega
  have bA : Blk V N 31 #[.int .i64 6, .int .i64 nn, .int .i64 gg, .string ss, v5, .slice ka kl kc] := by
    rw [← hV, ← hN]
    exact (Blk.new w _ _).alloc _
  have bB : Blk V R 23 #[.int .i64 0, .int .i64 0, .int .i64 0, .int .i64 0, .int .i64 0, .int .i64 0] := by
    rw [← hV]
    have := Blk.new (w.alloc (.cells #[.int .i64 6, .int .i64 nn, .int .i64 gg, .string ss, v5, .slice ka kl kc] 31)) 23 #[.int .i64 0, .int .i64 0, .int .i64 0, .int .i64 0, .int .i64 0, .int .i64 0]
    rw [World.size_alloc, hN, hR] at this
    exact this
  have hBV : Below N w V := by rw [← hV, ← hN]; exact ((Below.refl _ w).alloc (Nat.le_refl _) _).alloc (by simp) _
  have HB := Lib.hid hBV
  have HNR := Lib.hid (show N ≤ R by omega)
  have hk2 : ((kl : Int) == 6) = false := by simp; omega
  obtain ⟨⟨a0, a1, a2, a3, a4, a5⟩, _⟩ := six_cells bA
  obtain ⟨⟨c0, c1, c2, c3, c4, c5⟩, ⟨f0, f1, f2, f3, f4, f5⟩⟩ := six_cells bB
  rw [hN]
  go_enter Try.func20, Try.ntmps20
  go_upto_region 1 with fail
  clear bA bB hV hN hVs hR hBV
  go_wp2_with fail
  exact bodyPost_ret (v := .tuple #[.agg #[.int .i64 0, .int .i64 0, .int .i64 0, .int .i64 0, .int .i64 0, .int .i64 0], .int .i64 3]) (by simp [results, Try.results20, go_sem, c0, c1, c2, c3, c4, c5]) rfl ⟨rfl, below_six HB.out HNR.out _ _ _ _ _ _⟩

/-- A row of objects whose keys and elements are slices, as all are. -/
def NumRowS (w : World) (A : Option Addr) (l : List (Int × Int)) : Prop := ∀ j (h : j < l.length), ∃ (b off : Nat) (g : Int) (s : ByteArray) (a1 a2 : Option Addr) (n1 c1 n2 c2 : Nat), A = some ⟨b, off, none⟩ ∧
  w.cell? ⟨b, off + j * 6, none⟩ = some (.int .i64 l[j].1) ∧ w.cell? ⟨b, off + j * 6 + 1, none⟩ = some (.int .i64 l[j].2) ∧ w.cell? ⟨b, off + j * 6 + 2, none⟩ = some (.int .i64 g) ∧
  w.cell? ⟨b, off + j * 6 + 3, none⟩ = some (.string s) ∧ w.cell? ⟨b, off + j * 6 + 4, none⟩ = some (.slice a1 n1 c1) ∧ w.cell? ⟨b, off + j * 6 + 5, none⟩ = some (.slice a2 n2 c2)
theorem NumRowS.num {w : World} {A : Option Addr} {l : List (Int × Int)} (h : NumRowS w A l) : NumRow w A l := fun j hj => by
  obtain ⟨b, off, g, s, a1, a2, n1, c1, n2, c2, e, h0, h1, h2, h3, h4, h5⟩ := h j hj
  exact ⟨b, off, g, s, _, _, e, h0, h1, h2, h3, h4, h5⟩
theorem NumRowS.below {B : Nat} {w w' : World} {A : Option Addr} {l : List (Int × Int)} (h : NumRowS w A l) (hb : Below B w w') (hB : w.heap.size ≤ B) : NumRowS w' A l := fun j hj => by
  obtain ⟨b, off, g, s, a1, a2, n1, c1, n2, c2, e, h0, h1, h2, h3, h4, h5⟩ := h j hj
  have hlt : b < B := Nat.lt_of_lt_of_le (World.block_lt_of_cell? w _ h0) hB
  exact ⟨b, off, g, s, a1, a2, n1, c1, n2, c2, e, (hb.cell (p := ⟨b, _, none⟩) hlt).trans h0, (hb.cell (p := ⟨b, _, none⟩) hlt).trans h1, (hb.cell (p := ⟨b, _, none⟩) hlt).trans h2, (hb.cell (p := ⟨b, _, none⟩) hlt).trans h3, (hb.cell (p := ⟨b, _, none⟩) hlt).trans h4, (hb.cell (p := ⟨b, _, none⟩) hlt).trans h5⟩
/-- The units of the first k elements. -/
def intsL (l : List (Int × Int)) (k : Nat) : List Value := (List.range k).map fun j => .int .i64 (uAt l j)
theorem intsL_snoc (l : List (Int × Int)) (k : Nat) : intsL l (k + 1) = intsL l k ++ [.int .i64 (uAt l k)] := by unfold intsL; rw [List.range_succ, List.map_append]; rfl
theorem intsL_len (l : List (Int × Int)) (k : Nat) : (intsL l k).length = k := by unfold intsL; rw [List.length_map, List.length_range]
/-- What Read's walk knows. -/
structure ReadW (w : World) (N R : Nat) (oc : Array Value) (l : List (Int × Int)) (k : Nat) (v : Value) (wr : World) : Prop where
  bo : Blk wr N 31 oc
  br : Blk wr R 23 #[.int .i64 0, .int .i64 0, .int .i64 0, .int .i64 0, .int .i64 0, .int .i64 0]
  own : wr.ownsRow (R + 1) 2 1 v k (intsL l k)
  below : Below N w wr
  ok : ∀ j (hj : j < l.length), j < k → isNum l[j].1 l[j].2 = true
theorem ReadW.keep {w : World} {N R : Nat} {oc : Array Value} {l : List (Int × Int)} {k : Nat} {v : Value} {wr w' : World} (h : ReadW w N R oc l k v wr) (hb : Below wr.heap.size wr w') : ReadW w N R oc l k v w' :=
  ⟨h.bo.below hb h.bo.lt, h.br.below hb h.br.lt, row_below h.own hb, h.below.trans (hb.mono (Nat.le_of_lt h.bo.lt)), h.ok⟩
theorem ReadW.new {w : World} {N R : Nat} {oc : Array Value} {l : List (Int × Int)} {k : Nat} {v : Value} {wr : World} (h : ReadW w N R oc l k v wr) (ob : Obj) : ReadW w N R oc l k v (wr.alloc ob) := h.keep ((Below.refl _ wr).alloc (Nat.le_refl _) ob)
theorem info64' : ∃ i, Try.prog.info? 2 = some i ∧ i.zero = some (.int .i64 0) ∧ i.size = 1 ∧ i.bytes = 8 := by
  have h := info64
  cases hi : Try.prog.info? 2 with
  | none => rw [hi] at h; cases h
  | some i => rw [hi] at h; simp only [Option.map_some, Option.some.injEq, Prod.mk.injEq] at h; exact ⟨i, rfl, h.1, h.2.1, h.2.2⟩
theorem news_one (w : World) {g : Nat} (hg : w.heap.size = g) (t : TypeId) (v : Value) : ∀ j x, [v][j]? = some x → (w.alloc (.cells #[v] t)).cell? ((⟨g, 0, none⟩ : Addr).add j) = some x := by
  subst hg
  exact World.news_of_block (heap_alloc_new w _)

set_option maxRecDepth 100000 in
set_option maxHeartbeats 8000000 in
theorem read42_six (nn gg : Int) (ss : ByteArray) (v5 : Value) (ka : Option Addr) (kc : Nat) (l : List (Int × Int)) (w : World) (hl : l.length = 6) (hrow : NumRowS w ka l) :
    Calls Try.prog 20 #[.agg #[.int .i64 6, .int .i64 nn, .int .i64 gg, .string ss, v5, .slice ka 6 kc]] w fun e w' => e = mxR (readQ l) (readX l) ∧ Below w.heap.size w w' := by
  obtain ⟨N, hN⟩ : ∃ N, w.heap.size = N := ⟨_, rfl⟩
  obtain ⟨R, hR⟩ : ∃ R, N + 1 = R := ⟨_, rfl⟩
  obtain ⟨V, hV⟩ : ∃ V, (w.alloc (.cells #[.int .i64 6, .int .i64 nn, .int .i64 gg, .string ss, v5, .slice ka 6 kc] 31)).alloc (.cells #[.int .i64 0, .int .i64 0, .int .i64 0, .int .i64 0, .int .i64 0, .int .i64 0] 23) = V := ⟨_, rfl⟩
  have hVs : V.heap.size = R + 1 := by rw [← hV]; simp [hN]; omega
  have bA : Blk V N 31 #[.int .i64 6, .int .i64 nn, .int .i64 gg, .string ss, v5, .slice ka 6 kc] := by
    rw [← hV, ← hN]
    exact (Blk.new w _ _).alloc _
  have bB : Blk V R 23 #[.int .i64 0, .int .i64 0, .int .i64 0, .int .i64 0, .int .i64 0, .int .i64 0] := by
    rw [← hV]
    have := Blk.new (w.alloc (.cells #[.int .i64 6, .int .i64 nn, .int .i64 gg, .string ss, v5, .slice ka 6 kc] 31)) 23 #[.int .i64 0, .int .i64 0, .int .i64 0, .int .i64 0, .int .i64 0, .int .i64 0]
    rw [World.size_alloc, hN, hR] at this
    exact this
  have hBV : Below N w V := by rw [← hV, ← hN]; exact ((Below.refl _ w).alloc (Nat.le_refl _) _).alloc (by simp) _
  have HI0 : Hid (ReadW w N R #[.int .i64 6, .int .i64 nn, .int .i64 gg, .string ss, v5, .slice ka 6 kc] l 0 (.slice none 0 0) V) := Lib.hid ⟨bA, bB, World.ownsRow_nil V (R + 1) 2 1, hBV, fun j hj h => absurd h (Nat.not_lt_zero _)⟩
  have HRow := Lib.hid (And.intro hrow (Nat.le_of_eq hN))
  have HNR := Lib.hid (show N ≤ R ∧ N < R + 1 by omega)
  have HL := Lib.hid hl
  obtain ⟨⟨a0, a1, a2, a3, a4, a5⟩, _⟩ := six_cells bA
  rw [hN]
  go_enter Try.func20, Try.ntmps20
  go_upto_region 6 with fail
  clear bA bB hV hN hVs hR hBV hl hrow
  go_wp2_with fail
  clear a0 a1 a2 a3 a4 a5
  go_loopw [4, 21] (fun v i wr => ∃ k : Nat, k ≤ 6 ∧ i = .int .i64 (k : Int) ∧ Hid (ReadW w N R #[.int .i64 6, .int .i64 nn, .int .i64 gg, .string ss, v5, .slice ka 6 kc] l k v wr)) (fun _ i _ => 6 - (intOf i).toNat)
  case atStart => exact ⟨0, by omega, rfl, HI0⟩
  case round =>
    clear HI0
    obtain ⟨k, hk, rfl, HI⟩ := hrel
    by_cases hlt : k < 6
    · have hkl : k < l.length := by rw [HL.out]; exact hlt
      have hik : (k : Int) < 6 := by omega
      have hik0 : (0 : Int) ≤ (k : Int) := by omega
      obtain ⟨b, off, g, s, ya, za, yn, yc, zn, zc, rfl, r0, r1, r2, r3, r4, r5⟩ := HRow.out.1.below HI.out.below HRow.out.2 k hkl
      obtain ⟨x, hx⟩ : ∃ x, l[k].1 = x := ⟨_, rfl⟩
      obtain ⟨y, hy⟩ : ∃ y, l[k].2 = y := ⟨_, rfl⟩
      rw [hx] at r0
      rw [hy] at r1
      have HK := Lib.hid hlt
      have HKn := Lib.hid (show isNum l[k].1 l[k].2 = isNum x y by rw [hx, hy])
      have HKl := Lib.hid hkl
      have hku := uAt_in l hkl
      rw [hx, hy] at hku
      obtain ⟨w4, hw4⟩ : ∃ W, wr.alloc (.cells #[.int .i64 x, .int .i64 y, .int .i64 g, .string s, .slice ya yn yc, .slice za zn zc] 31) = W := ⟨_, rfl⟩
      have hI4 := HI.out.new (.cells #[.int .i64 x, .int .i64 y, .int .i64 g, .string s, .slice ya yn yc, .slice za zn zc] 31)
      rw [hw4] at hI4
      have HI4 := Lib.hid hI4
      clear hI4
      have HNum := Lib.hid (number05 x y g s (.slice ya yn yc) (.slice za zn zc) w4)
      have HBn := Lib.hid (show Blk w4 wr.heap.size 31 #[.int .i64 x, .int .i64 y, .int .i64 g, .string s, .slice ya yn yc, .slice za zn zc] by rw [← hw4]; exact Blk.new wr _ _)
      obtain ⟨Gn, hGn⟩ : ∃ G, wr.heap.size = G := ⟨_, rfl⟩
      rw [hGn] at HBn
      obtain ⟨u, hu⟩ : ∃ u, unitsOf x y = u := ⟨_, rfl⟩
      rw [hu] at HNum hku
      have HKu := Lib.hid hku
      have HSn := Lib.hid (show intsL l (k + 1) = intsL l k ++ [.int .i64 u] by rw [intsL_snoc, hku])
      clear hu hku hx hy hlt hk
      go_upto_region 9 with fail
      clear r0 r1 r2 r3 r4 r5 hGn hw4 HI
      obtain ⟨⟨t0, t1, t2, t3, t4, t5⟩, _⟩ := six_cells HBn.out
      by_cases hn : isNum x y = true
      · rw [hn] at HNum
        have HN := Lib.hid (HKn.out.trans hn)
        clear hn
        go_wp2_with fail
        refine HNum.out.mono ?_
        rintro e w5 ⟨rfl, hb⟩
        have HI5 := Lib.hid (HI4.out.keep hb)
        clear hb t0 t1 t2 t3 t4 t5 HI4 HNum
        obtain ⟨i0, hi0, hz0, hz1, hz2⟩ := info64'
        obtain ⟨G, hG⟩ : ∃ G, w5.heap.size = G := ⟨_, rfl⟩
        have hbG : R + 1 ≤ G := by rw [← hG]; exact HI5.out.br.lt
        have hk6 : k ≤ 6 := by have := HK.out; omega
        go_wp2_with (at_builtin; refine wpList_append_lies _ rfl _ _ _ rfl (R + 1) 2 i0 (.int .i64 0) 1 8 Try.underlying54 hi0 hz0 hz1 hz2 rfl (by decide) _ k (intsL l k) rfl (by exact row_below HI5.out.own ((Below.refl _ w5).alloc (Nat.le_refl _) _)) ⟨G, 0, none⟩ 1 1 [.int .i64 u] rfl rfl (by exact news_one w5 hG _ _) (by simp [Value.oneCell']) (by omega) (by unfold maxLen; omega) (by omega) (by simp [hG]; omega) (G + 1) (by simp [hG]) ?_; intro g6 cap w6 hown1 hgrow hat hlt1)
        have hb4 : Below (R + 1) w5 w6 := ((Below.refl (R + 1) w5).alloc (by omega) _).grown hgrow (by simp; omega) (fun q hq => (World.ownsRow.lt HI5.out.own q hq).1)
        have HI6 : Hid (ReadW w N R #[.int .i64 6, .int .i64 nn, .int .i64 gg, .string ss, v5, .slice (some ⟨b, off, none⟩) 6 kc] l (k + 1) (.slice (some ⟨g6, 0, none⟩) (k + 1) cap) w6) := Lib.hid ⟨HI5.out.bo.below hb4 (by have := HNR.out; omega), HI5.out.br.below hb4 (by omega), by
          rw [HSn.out]
          exact hown1, HI5.out.below.trans (hb4.mono (by have := HNR.out; omega)), fun j hj hjk => by
            by_cases h : j < k
            · exact HI5.out.ok j hj h
            · obtain rfl : j = k := by omega
              exact HN.out⟩
        clear hown1 hgrow hat hlt1 hb4 hG
        go_roundw
        case rel => exact ⟨k + 1, by have := HK.out; omega, by go_num, HI6⟩
        case measure => simp [intOf]; have := HK.out; omega
      · rw [Bool.eq_false_iff.2 hn] at HNum
        have HF := Lib.hid (allNum_not HKl.out (fun h => hn (HKn.out.symm.trans h)))
        have HE := Lib.hid (show mxR (readQ l) (readX l) = .returned (.tuple #[.agg #[.int .i64 0, .int .i64 0, .int .i64 0, .int .i64 0, .int .i64 0, .int .i64 0], .int .i64 3]) by unfold readQ readX; rw [HF.out]; rfl)
        clear hn
        go_wp2_with fail
        refine HNum.out.mono ?_
        rintro e w5 ⟨rfl, hb⟩
        have HI5 := Lib.hid (HI4.out.keep hb)
        clear hb t0 t1 t2 t3 t4 t5 HI4 HNum
        obtain ⟨⟨c0, c1, c2, c3, c4, c5⟩, ⟨f0, f1, f2, f3, f4, f5⟩⟩ := six_cells HI5.out.br
        go_wp2_with fail
        exact bodyPost_ret (v := .tuple #[.agg #[.int .i64 0, .int .i64 0, .int .i64 0, .int .i64 0, .int .i64 0, .int .i64 0], .int .i64 3]) (by simp [results, Try.results20, go_sem, c0, c1, c2, c3, c4, c5]) rfl ⟨HE.out.symm, below_six HI5.out.below HNR.out.1 _ _ _ _ _ _⟩
    · obtain rfl : k = 6 := by omega
      have HF := Lib.hid (allNum_at (l := l) (fun j hj => HI.out.ok j hj (by rw [HL.out] at hj; exact hj)))
      obtain ⟨g0, c0', hv⟩ := own_some HI.out.own (by decide)
      subst hv
      obtain ⟨q, hq⟩ : ∃ q, mxOf l = q := ⟨_, rfl⟩
      have HE := Lib.hid (show mxR (readQ l) (readX l) = .returned (.tuple #[mxV q, .int .i64 0]) by unfold readQ readX; rw [HF.out, ← hq]; rfl)
      unfold mxV at HE
      have HQ := Lib.hid (show intsL l 6 = [.int .i64 q.a, .int .i64 q.b, .int .i64 q.c, .int .i64 q.d, .int .i64 q.e, .int .i64 q.f] by rw [← hq]; rfl)
      rw [show ((6 : Nat) : Int) = 6 from rfl]
      clear hlt hk hq
      go_upto_region 14 with fail
      go_still_tail 19, (by kernel_rfl)
      obtain ⟨wd, hwd⟩ : ∃ wd, ({ heap := wr.heap, tape := wr.tape, drawn := wr.drawn + 1, os := wr.os, output := wr.output } : World) = wd := ⟨_, rfl⟩
      have HW := Lib.hid (show ReadW w N R #[.int .i64 6, .int .i64 nn, .int .i64 gg, .string ss, v5, .slice ka 6 kc] l 6 (.slice (some ⟨g0, 0, none⟩) 6 c0') wd by rw [← hwd]; exact HI.out.keep (below_drewN (Below.refl _ wr) 1))
      have hown := HW.out.own
      rw [HQ.out] at hown
      rw [hwd]
      clear hwd HI
      have s0 : wd.cell? ⟨g0, 0, none⟩ = some (.int .i64 q.a) := hown.cellAt 0 (by decide)
      have s1 : wd.cell? ⟨g0, 1, none⟩ = some (.int .i64 q.b) := hown.cellAt 1 (by decide)
      have s2 : wd.cell? ⟨g0, 2, none⟩ = some (.int .i64 q.c) := hown.cellAt 2 (by decide)
      have s3 : wd.cell? ⟨g0, 3, none⟩ = some (.int .i64 q.d) := hown.cellAt 3 (by decide)
      have s4 : wd.cell? ⟨g0, 4, none⟩ = some (.int .i64 q.e) := hown.cellAt 4 (by decide)
      have s5 : wd.cell? ⟨g0, 5, none⟩ = some (.int .i64 q.f) := hown.cellAt 5 (by decide)
      clear hown
      have q0 : IntKind.i64.wrap 0 = 0 := IntWalk.i64_in _ (by decide)
      have q1 : IntKind.i64.wrap 1 = 1 := IntWalk.i64_in _ (by decide)
      have q2 : IntKind.i64.wrap 2 = 2 := IntWalk.i64_in _ (by decide)
      have q3 : IntKind.i64.wrap 3 = 3 := IntWalk.i64_in _ (by decide)
      have q4 : IntKind.i64.wrap 4 = 4 := IntWalk.i64_in _ (by decide)
      have q5 : IntKind.i64.wrap 5 = 5 := IntWalk.i64_in _ (by decide)
      repeat still_step
      refine wpStill_nil ?_
      obtain ⟨⟨c0, c1, c2, c3, c4, c5⟩, ⟨f0, f1, f2, f3, f4, f5⟩⟩ := six_cells HW.out.br
      clear s0 s1 s2 s3 s4 s5 q0 q1 q2 q3 q4 q5
      go_wp2_with fail
      exact bodyPost_ret (v := .tuple #[.agg #[.int .i64 q.a, .int .i64 q.b, .int .i64 q.c, .int .i64 q.d, .int .i64 q.e, .int .i64 q.f], .int .i64 0]) (by simp [results, Try.results20, go_sem, c0, c1, c2, c3, c4, c5]) rfl ⟨HE.out.symm, below_six HW.out.below HNR.out.1 _ _ _ _ _ _⟩
end Go.Proofs.Ythihmbicalacfaa
