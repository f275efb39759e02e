/-
  value: Clone of an array of leaves; Array; matrix: Object.
-/
import Derived.Test.YthihmbicalacfaaMatG
import Derived.Test.YthihmbicalacfaaMatB
import Derived.Deep.RegionHeld3
namespace Go.Proofs.Ythihmbicalacfaa
open Go.RowKit Fix Mat

/-- The cells of a row of leaves: a kind and a number each. -/
def obC (l : List (Int × Int)) : List Value := l.flatMap fun p => [.int .i64 p.1, .int .i64 p.2, .int .i64 0, .string ⟨#[]⟩, .slice none 0 0, .slice none 0 0]
theorem obC_len (l : List (Int × Int)) : (obC l).length = l.length * 6 := by
  induction l with
  | nil => rfl
  | cons p l ih =>
    have : obC (p :: l) = [.int .i64 p.1, .int .i64 p.2, .int .i64 0, .string ⟨#[]⟩, .slice none 0 0, .slice none 0 0] ++ obC l := rfl
    rw [this, List.length_append, ih, List.length_cons]
    simp only [List.length_cons, List.length_nil]
    omega
theorem obC_snoc (l : List (Int × Int)) (p : Int × Int) : obC (l ++ [p]) = obC l ++ [.int .i64 p.1, .int .i64 p.2, .int .i64 0, .string ⟨#[]⟩, .slice none 0 0, .slice none 0 0] := by unfold obC; rw [List.flatMap_append]; rfl
theorem obC_one (l : List (Int × Int)) : ∀ u ∈ obC l, u.oneCell' = true := by
  intro u hu
  obtain ⟨p, _, hp⟩ := List.mem_flatMap.1 hu
  simp only [List.mem_cons, List.not_mem_nil, or_false] at hp
  rcases hp with rfl | rfl | rfl | rfl | rfl | rfl <;> rfl
theorem obC_at (l : List (Int × Int)) : ∀ (j : Nat) (h : j < l.length),
    (obC l)[j * 6]? = some (.int .i64 l[j].1) ∧ (obC l)[j * 6 + 1]? = some (.int .i64 l[j].2) ∧ (obC l)[j * 6 + 2]? = some (.int .i64 0) ∧ (obC l)[j * 6 + 3]? = some (.string ⟨#[]⟩) ∧ (obC l)[j * 6 + 4]? = some (.slice none 0 0) ∧ (obC l)[j * 6 + 5]? = some (.slice none 0 0) := by
  induction l with
  | nil => intro j h; exact absurd h (Nat.not_lt_zero _)
  | cons p l ih =>
    intro j h
    have e : obC (p :: l) = [.int .i64 p.1, .int .i64 p.2, .int .i64 0, .string ⟨#[]⟩, .slice none 0 0, .slice none 0 0] ++ obC l := rfl
    rw [e]
    cases j with
    | zero => exact ⟨rfl, rfl, rfl, rfl, rfl, rfl⟩
    | succ j =>
      have hj : j < l.length := by simpa using h
      obtain ⟨h0, h1, h2, h3, h4, h5⟩ := ih j hj
      have hs : ∀ i, ([.int .i64 p.1, .int .i64 p.2, .int .i64 0, .string ⟨#[]⟩, .slice none 0 0, .slice none 0 0] ++ obC l)[(j + 1) * 6 + i]? = (obC l)[j * 6 + i]? := fun i => by
        rw [List.getElem?_append_right (by simp; omega)]
        congr 1
        simp
        omega
      exact ⟨(hs 0).trans h0, (hs 1).trans h1, (hs 2).trans h2, (hs 3).trans h3, (hs 4).trans h4, (hs 5).trans h5⟩

/-- Rows of leaves: read, and owned. -/
def ORow (w : World) (g : Nat) (l : List (Int × Int)) : Prop := ∀ j u, (obC l)[j]? = some u → w.cell? ⟨g, j, none⟩ = some u
def OwnO (w : World) (base : Nat) (v : Value) (n : Nat) (l : List (Int × Int)) : Prop := w.ownsRow base 31 6 v n (obC l)
theorem infoO : (Try.prog.info? 31).map (fun i => (i.zero, i.size, i.bytes)) = some (some (.agg #[.int .i64 0, .int .i64 0, .int .i64 0, .string ⟨#[]⟩, .slice none 0 0, .slice none 0 0]), 6, 88) := by kernel_rfl
theorem OwnO.row {w : World} {base g n cap : Nat} {l : List (Int × Int)} (h : OwnO w base (.slice (some ⟨g, 0, none⟩) n cap) n l) (hn : l.length = n) : ORow w g l := fun j u hu => by
  have hj : j < (obC l).length := by
    rcases Nat.lt_or_ge j (obC l).length with h1 | h1
    · exact h1
    · rw [List.getElem?_eq_none h1] at hu; cases hu
  rw [obC_len, hn] at hj
  exact (World.ownsRow.cellAt h j hj).trans hu
theorem ORow.below {B : Nat} {w w' : World} {g : Nat} {l : List (Int × Int)} (h : ORow w g l) (hb : Below B w w') (hg : g < B) : ORow w' g l := fun j u hu => (hb.cell (p := ⟨g, j, none⟩) hg).trans (h j u hu)
theorem ORow.news {w : World} {g : Nat} {l : List (Int × Int)} (h : ORow w g l) : ∀ j u, (obC l)[j]? = some u → w.cell? ((⟨g, 0, none⟩ : Addr).add j) = some u := fun j u hu => by
  have hadd : (⟨g, 0, none⟩ : Addr).add j = ⟨g, j, none⟩ := by unfold Addr.add; split <;> simp_all
  rw [hadd]
  exact h j u hu
theorem ORow.lt {w : World} {g : Nat} {l : List (Int × Int)} (h : ORow w g l) (hl : 0 < l.length) : g < w.heap.size :=
  World.block_lt_of_cell? w ⟨g, 0, none⟩ (h 0 _ ((obC_at l 0 hl).1))
theorem ORow.six {w : World} {g : Nat} {l : List (Int × Int)} (h : ORow w g l) {k : Nat} (hk : k < l.length) :
    w.cell? ⟨g, k * 6, none⟩ = some (.int .i64 l[k].1) ∧ w.cell? ⟨g, k * 6 + 1, none⟩ = some (.int .i64 l[k].2) ∧ w.cell? ⟨g, k * 6 + 2, none⟩ = some (.int .i64 0) ∧ w.cell? ⟨g, k * 6 + 3, none⟩ = some (.string ⟨#[]⟩) ∧ w.cell? ⟨g, k * 6 + 4, none⟩ = some (.slice none 0 0) ∧ w.cell? ⟨g, k * 6 + 5, none⟩ = some (.slice none 0 0) := by
  obtain ⟨h0, h1, h2, h3, h4, h5⟩ := obC_at l k hk
  exact ⟨h _ _ h0, h _ _ h1, h _ _ h2, h _ _ h3, h _ _ h4, h _ _ h5⟩
theorem olit0 (W : World) (N : Nat) (hN : N ≤ W.heap.size) : OwnO (W.alloc (.cells #[] 31)) N (.slice (some ⟨W.heap.size, 0, none⟩) 0 0) 0 [] :=
  World.ownsRow_lit W #[] 0 hN (by unfold maxLen; omega) rfl

set_option maxRecDepth 100000 in
set_option maxHeartbeats 4000000 in
theorem oclone_any (R cap : Nat) (l : List (Int × Int)) (w : World) (h : ORow w R l) (hl0 : 0 < l.length) (hl : l.length ≤ 1000) :
    Calls Try.prog 77 #[.slice (some ⟨R, 0, none⟩) l.length cap] w fun e w' => ∃ g c', e = .returned (.slice (some ⟨g, 0, none⟩) l.length c') ∧ OwnO w' w.heap.size (.slice (some ⟨g, 0, none⟩) l.length c') l.length l ∧ Below w.heap.size w w' := by
  obtain ⟨n, hn⟩ : ∃ n, l.length = n := ⟨_, rfl⟩
  have HN := Lib.hid hn
  have hlt := h.lt hl0
  rw [hn]
  rw [hn] at hl0 hl
  have he : ∀ w : World, (binOp .eql 29 (.slice (some ⟨R, 0, none⟩) n cap) (.slice none 0 0)).run Try.prog w = .ok (.bool false) w := fun _ => rfl
  obtain ⟨i0, hi, hz0, hz1, hz2⟩ := info_parts infoO
  have H0 := Lib.hid (olit0 w w.heap.size (Nat.le_refl _))
  have HB0 := Lib.hid ((Below.refl w.heap.size w).alloc (Nat.le_refl _) (.cells #[] 31))
  have H1 := Lib.hid (h.below HB0.out hlt)
  clear hn h hlt
  go_enter Try.func77, Try.ntmps77
  go_wp2_with (at_builtin; refine wpList_append_lies _ rfl _ _ _ rfl w.heap.size 31 i0 (.agg #[.int .i64 0, .int .i64 0, .int .i64 0, .string ⟨#[]⟩, .slice none 0 0, .slice none 0 0]) 6 88 Try.underlying29 hi hz0 hz1 hz2 rfl (by decide) (.slice (some ⟨w.heap.size, 0, none⟩) 0 0) 0 [] rfl (by exact H0.out) ⟨R, 0, none⟩ n cap (obC l) rfl (by rw [obC_len, HN.out]) (by exact H1.out.news) (obC_one l) hl0 (by unfold maxLen; omega) (by omega) (by simp) (w.heap.size + 1) (by simp) ?_; intro g cap2 w1 hown1 hgrow hat hlt1)
  have HO := Lib.hid (show OwnO w1 w.heap.size (.slice (some ⟨g, 0, none⟩) n cap2) n l by rw [Nat.zero_add] at hown1; exact hown1)
  have HB1 := Lib.hid (HB0.out.grown hgrow (by simp) (fun k hk => by injection hk with hk; show w.heap.size ≤ k; rw [← hk]; exact Nat.le_refl _))
  clear hown1 hgrow hat hlt1
  go_ret
  first | exact ⟨g, ⟨cap2, rfl⟩, HO.out, HB1.out⟩ | exact ⟨g, cap2, rfl, HO.out, HB1.out⟩

set_option maxRecDepth 100000 in
set_option maxHeartbeats 4000000 in
theorem changed_leaf (k n : Int) (w : World) :
    Calls Try.prog 71 #[.agg #[.int .i64 k, .int .i64 n, .int .i64 0, .string ⟨#[]⟩, .slice none 0 0, .slice none 0 0], .func (.func 72) #[] #[]] w fun e w' => e = .returned (.agg #[.int .i64 k, .int .i64 n, .int .i64 0, .string ⟨#[]⟩, .slice none 0 0, .slice none 0 0]) ∧ Below w.heap.size w w' := by
  obtain ⟨N, hN⟩ : ∃ N, w.heap.size = N := ⟨_, rfl⟩
  obtain ⟨R, hR⟩ : ∃ R, N + 1 = R := ⟨_, rfl⟩
  obtain ⟨V, hV⟩ : ∃ V, (w.alloc (.cells #[.int .i64 k, .int .i64 n, .int .i64 0, .string ⟨#[]⟩, .slice none 0 0, .slice none 0 0] 31)).alloc (.cells #[.int .i64 0, .int .i64 0, .int .i64 0, .string ⟨#[]⟩, .slice none 0 0, .slice none 0 0] 31) = V := ⟨_, rfl⟩
  have hVs : V.heap.size = R + 1 := by rw [← hV]; simp [hN]; omega
  have bA : Blk V N 31 #[.int .i64 k, .int .i64 n, .int .i64 0, .string ⟨#[]⟩, .slice none 0 0, .slice none 0 0] := by
    rw [← hV, ← hN]
    exact (Blk.new w _ _).alloc _
  have bB : Blk V R 31 #[.int .i64 0, .int .i64 0, .int .i64 0, .string ⟨#[]⟩, .slice none 0 0, .slice none 0 0] := by
    rw [← hV]
    have := Blk.new (w.alloc (.cells #[.int .i64 k, .int .i64 n, .int .i64 0, .string ⟨#[]⟩, .slice none 0 0, .slice none 0 0] 31)) 31 #[.int .i64 0, .int .i64 0, .int .i64 0, .string ⟨#[]⟩, .slice none 0 0, .slice none 0 0]
    rw [World.size_alloc, hN, hR] at this
    exact this
  have HB := Lib.hid (show Below N w V by rw [← hV, ← hN]; exact ((Below.refl _ w).alloc (Nat.le_refl _) _).alloc (by simp) _)
  have HA := Lib.hid bA
  have HBb := Lib.hid bB
  have HS := Lib.hid (show N ≤ R ∧ N ≠ R ∧ V.heap.size = R + 1 by omega)
  obtain ⟨⟨a0, a1, a2, a3, a4, a5⟩, _⟩ := six_cells bA
  rw [hN]
  go_enter Try.func71, Try.ntmps71
  go_upto_region 1 with fail
  clear bA bB hV hN hVs hR
  go_wp2_with fail
  refine (same_any k n none 0 0 V).mono ?_
  rintro e w1 ⟨rfl, hb⟩
  have hA1 := HA.out.below hb HA.out.lt
  have hB1 := HBb.out.below hb HBb.out.lt
  have hW1 := HB.out.trans (hb.mono (by rw [HS.out.2.2]; have := HS.out.1; omega))
  obtain ⟨⟨b0, b1, b2, b3, b4, b5⟩, ⟨f0, f1, f2, f3, f4, f5⟩⟩ := six_cells hA1
  clear a0 a1 a2 a3 a4 a5
  have H1 := Lib.hid (And.intro hA1 (And.intro hB1 hW1))
  clear hb hA1 hB1 hW1
  go_upto_region 2 with fail
  obtain ⟨w2, hw2⟩ : ∃ w2, (((((w1.setCell ⟨N, 0, none⟩ (.int .i64 k)).setCell ⟨N, 1, none⟩ (.int .i64 n)).setCell ⟨N, 2, none⟩ (.int .i64 0)).setCell ⟨N, 3, none⟩ (.string ⟨#[]⟩)).setCell ⟨N, 4, none⟩ (.slice none 0 0)).setCell ⟨N, 5, none⟩ (.slice none 0 0) = w2 := ⟨_, rfl⟩
  have HA2 := Lib.hid (show Blk w2 N 31 #[.int .i64 k, .int .i64 n, .int .i64 0, .string ⟨#[]⟩, .slice none 0 0, .slice none 0 0] by rw [← hw2]; exact (((((H1.out.1.set_ 0 _).set_ 1 _).set_ 2 _).set_ 3 _).set_ 4 _).set_ 5 _)
  have HB2 := Lib.hid (show Blk w2 R 31 #[.int .i64 0, .int .i64 0, .int .i64 0, .string ⟨#[]⟩, .slice none 0 0, .slice none 0 0] by rw [← hw2]; have hne : R ≠ N := fun e => HS.out.2.1 e.symm; exact (((((H1.out.2.1.far (p := ⟨N, 0, none⟩) hne _).far (p := ⟨N, 1, none⟩) hne _).far (p := ⟨N, 2, none⟩) hne _).far (p := ⟨N, 3, none⟩) hne _).far (p := ⟨N, 4, none⟩) hne _).far (p := ⟨N, 5, none⟩) hne _)
  have HW2 := Lib.hid (show Below N w w2 by rw [← hw2]; exact below_six H1.out.2.2 (Nat.le_refl _) _ _ _ _ _ _)
  rw [hw2]
  clear hw2 b0 b1 b2 b3 b4 b5 f0 f1 f2 f3 f4 f5 H1
  obtain ⟨⟨b0, b1, b2, b3, b4, b5⟩, ⟨f0, f1, f2, f3, f4, f5⟩⟩ := six_cells HA2.out
  go_wp2_with fail
  refine (sclone_nil w2).mono ?_
  rintro e w' ⟨rfl, rfl⟩
  go_upto_region 3 with fail
  obtain ⟨w3, hw3⟩ : ∃ w3, w2.setCell ⟨N, 4, none⟩ (.slice none 0 0) = w3 := ⟨_, rfl⟩
  have HA3 := Lib.hid (show Blk w3 N 31 #[.int .i64 k, .int .i64 n, .int .i64 0, .string ⟨#[]⟩, .slice none 0 0, .slice none 0 0] by rw [← hw3]; exact HA2.out.set_ 4 _)
  have HB3 := Lib.hid (show Blk w3 R 31 #[.int .i64 0, .int .i64 0, .int .i64 0, .string ⟨#[]⟩, .slice none 0 0, .slice none 0 0] by rw [← hw3]; exact HB2.out.far (p := ⟨N, 4, none⟩) (fun e => HS.out.2.1 e.symm) _)
  have HW3 := Lib.hid (show Below N w w3 by rw [← hw3]; exact HW2.out.setCell (p := ⟨N, 4, none⟩) (Nat.le_refl _) _)
  rw [hw3]
  clear hw3 b0 b1 b2 b3 b4 b5 f0 f1 f2 f3 f4 f5 HA2 HB2 HW2
  obtain ⟨⟨b0, b1, b2, b3, b4, b5⟩, ⟨f0, f1, f2, f3, f4, f5⟩⟩ := six_cells HA3.out
  go_wp2_with fail
  refine (oclone_nil w3).mono ?_
  rintro e w' ⟨rfl, rfl⟩
  go_upto_region 4 with fail
  obtain ⟨w4, hw4⟩ : ∃ w4, w3.setCell ⟨N, 5, none⟩ (.slice none 0 0) = w4 := ⟨_, rfl⟩
  have HA4 := Lib.hid (show Blk w4 N 31 #[.int .i64 k, .int .i64 n, .int .i64 0, .string ⟨#[]⟩, .slice none 0 0, .slice none 0 0] by rw [← hw4]; exact HA3.out.set_ 5 _)
  have HB4 := Lib.hid (show Blk w4 R 31 #[.int .i64 0, .int .i64 0, .int .i64 0, .string ⟨#[]⟩, .slice none 0 0, .slice none 0 0] by rw [← hw4]; exact HB3.out.far (p := ⟨N, 5, none⟩) (fun e => HS.out.2.1 e.symm) _)
  have HW4 := Lib.hid (show Below N w w4 by rw [← hw4]; exact HW3.out.setCell (p := ⟨N, 5, none⟩) (Nat.le_refl _) _)
  rw [hw4]
  clear hw4 b0 b1 b2 b3 b4 b5 f0 f1 f2 f3 f4 f5 HA3 HB3 HW3
  obtain ⟨⟨b0, b1, b2, b3, b4, b5⟩, _⟩ := six_cells HA4.out
  obtain ⟨⟨c0, c1, c2, c3, c4, c5⟩, ⟨g0, g1, g2, g3, g4, g5⟩⟩ := six_cells HB4.out
  go_wp2_with fail
  go_loopw [21] (fun i wr => i = .int .i64 0 ∧ wr = w4) (fun _ _ => 0)
  case atStart => exact ⟨rfl, rfl⟩
  case round =>
    obtain ⟨rfl, rfl⟩ := hrel
    go_wp2_with fail
    exact bodyPost_ret (v := .agg #[.int .i64 k, .int .i64 n, .int .i64 0, .string ⟨#[]⟩, .slice none 0 0, .slice none 0 0]) (by simp [results, Try.results71, go_sem, c0, c1, c2, c3, c4, c5]) rfl ⟨rfl, below_six HW4.out HS.out.1 _ _ _ _ _ _⟩
theorem own_base {w : World} {base base' : Nat} {e : TypeId} {size : Nat} {v : Value} {n : Nat} {xs : List Value} (h : w.ownsRow base e size v n xs) (hb : base' ≤ base) : w.ownsRow base' e size v n xs := by
  rcases h.2 with hn | ⟨g, cap, cur, rfl, hbg, rest⟩
  · exact ⟨h.1, .inl hn⟩
  · exact ⟨h.1, .inr ⟨g, cap, cur, rfl, Nat.le_trans hb hbg, rest⟩⟩
theorem ORow.far {w : World} {g : Nat} {l : List (Int × Int)} (h : ORow w g l) {p : Addr} (hp : g ≠ p.block) (u : Value) : ORow (w.setCell p u) g l := fun j x hx => by
  have e : (w.setCell p u).heap[g]? = w.heap[g]? := Below.heap_setCell w p u g hp
  have e2 : (w.setCell p u).cell? ⟨g, j, none⟩ = w.cell? ⟨g, j, none⟩ := by simp [World.cell?, e]
  rw [e2]
  exact h j x hx
/-- Storing what is there. -/
theorem own_same {w : World} {base g n cap size j : Nat} {e : TypeId} {xs : List Value} {u : Value} (h : w.ownsRow base e size (.slice (some ⟨g, 0, none⟩) n cap) n xs) (hu : xs[j]? = some u) : (w.setCell ⟨g, j, none⟩ u).ownsRow base e size (.slice (some ⟨g, 0, none⟩) n cap) n xs := by
  have hs := (World.ownsRow.stored h j u).1
  have e1 : xs.set j u = xs := by
    obtain ⟨hj, he⟩ := List.getElem?_eq_some_iff.1 hu
    rw [← he, List.set_getElem_self]
  rw [e1] at hs
  exact hs
theorem OwnO.same {w : World} {base g n cap k : Nat} {l : List (Int × Int)} (h : OwnO w base (.slice (some ⟨g, 0, none⟩) n cap) n l) (hk : k < l.length) :
    OwnO ((((((w.setCell ⟨g, k * 6, none⟩ (.int .i64 l[k].1)).setCell ⟨g, k * 6 + 1, none⟩ (.int .i64 l[k].2)).setCell ⟨g, k * 6 + 2, none⟩ (.int .i64 0)).setCell ⟨g, k * 6 + 3, none⟩ (.string ⟨#[]⟩)).setCell ⟨g, k * 6 + 4, none⟩ (.slice none 0 0)).setCell ⟨g, k * 6 + 5, none⟩ (.slice none 0 0)) base (.slice (some ⟨g, 0, none⟩) n cap) n l := by
  obtain ⟨h0, h1, h2, h3, h4, h5⟩ := obC_at l k hk
  exact own_same (own_same (own_same (own_same (own_same (own_same h h0) h1) h2) h3) h4) h5
theorem OwnO.below {w w' : World} {base : Nat} {v : Value} {n : Nat} {l : List (Int × Int)} (h : OwnO w base v n l) (hb : Below w.heap.size w w') : OwnO w' base v n l := row_below h hb
/-- What the rounds of changed know: the object O, its result R, the copied row g. -/
structure ChgAt (w : World) (N O R g c : Nat) (l : List (Int × Int)) (wr : World) : Prop where
  bo : Blk wr O 31 #[.int .i64 6, .int .i64 0, .int .i64 0, .string ⟨#[]⟩, .slice none 0 0, .slice (some ⟨g, 0, none⟩) l.length c]
  br : Blk wr R 31 #[.int .i64 0, .int .i64 0, .int .i64 0, .string ⟨#[]⟩, .slice none 0 0, .slice none 0 0]
  own : OwnO wr (R + 1) (.slice (some ⟨g, 0, none⟩) l.length c) l.length l
  below : Below N w wr
theorem ChgAt.keep {w : World} {N O R g c : Nat} {l : List (Int × Int)} {wr w' : World} (h : ChgAt w N O R g c l wr) (hb : Below wr.heap.size wr w') (hN : N ≤ wr.heap.size) : ChgAt w N O R g c l w' :=
  ⟨h.bo.below hb h.bo.lt, h.br.below hb h.br.lt, h.own.below hb, h.below.trans (hb.mono hN)⟩
theorem ChgAt.store {w : World} {N O R g c : Nat} {l : List (Int × Int)} {wr : World} (h : ChgAt w N O R g c l wr) {k : Nat} (hk : k < l.length) (hg : N ≤ g) (hO : O ≠ g) (hR : R ≠ g) :
    ChgAt w N O R g c l ((((((wr.setCell ⟨g, k * 6, none⟩ (.int .i64 l[k].1)).setCell ⟨g, k * 6 + 1, none⟩ (.int .i64 l[k].2)).setCell ⟨g, k * 6 + 2, none⟩ (.int .i64 0)).setCell ⟨g, k * 6 + 3, none⟩ (.string ⟨#[]⟩)).setCell ⟨g, k * 6 + 4, none⟩ (.slice none 0 0)).setCell ⟨g, k * 6 + 5, none⟩ (.slice none 0 0)) := by
  refine ⟨?_, ?_, h.own.same hk, ?_⟩
  · exact (((((h.bo.far (p := ⟨g, k * 6, none⟩) hO _).far (p := ⟨g, k * 6 + 1, none⟩) hO _).far (p := ⟨g, k * 6 + 2, none⟩) hO _).far (p := ⟨g, k * 6 + 3, none⟩) hO _).far (p := ⟨g, k * 6 + 4, none⟩) hO _).far (p := ⟨g, k * 6 + 5, none⟩) hO _
  · exact (((((h.br.far (p := ⟨g, k * 6, none⟩) hR _).far (p := ⟨g, k * 6 + 1, none⟩) hR _).far (p := ⟨g, k * 6 + 2, none⟩) hR _).far (p := ⟨g, k * 6 + 3, none⟩) hR _).far (p := ⟨g, k * 6 + 4, none⟩) hR _).far (p := ⟨g, k * 6 + 5, none⟩) hR _
  · exact (((((h.below.setCell (p := ⟨g, k * 6, none⟩) hg _).setCell (p := ⟨g, k * 6 + 1, none⟩) hg _).setCell (p := ⟨g, k * 6 + 2, none⟩) hg _).setCell (p := ⟨g, k * 6 + 3, none⟩) hg _).setCell (p := ⟨g, k * 6 + 4, none⟩) hg _).setCell (p := ⟨g, k * 6 + 5, none⟩) hg _

set_option maxRecDepth 100000 in
set_option maxHeartbeats 8000000 in
theorem changed_array (R0 cap : Nat) (l : List (Int × Int)) (w : World) (h : ORow w R0 l) (hl0 : 0 < l.length) (hl : l.length ≤ 1000) :
    Calls Try.prog 71 #[.agg #[.int .i64 6, .int .i64 0, .int .i64 0, .string ⟨#[]⟩, .slice none 0 0, .slice (some ⟨R0, 0, none⟩) l.length cap], .func (.func 72) #[] #[]] w fun e w' => ∃ g c', e = .returned (.agg #[.int .i64 6, .int .i64 0, .int .i64 0, .string ⟨#[]⟩, .slice none 0 0, .slice (some ⟨g, 0, none⟩) l.length c']) ∧ ORow w' g l ∧ w.heap.size ≤ g ∧ Below w.heap.size w w' := by
  obtain ⟨n, hn⟩ : ∃ n, l.length = n := ⟨_, rfl⟩
  obtain ⟨N, hN⟩ : ∃ N, w.heap.size = N := ⟨_, rfl⟩
  obtain ⟨R, hR⟩ : ∃ R, N + 1 = R := ⟨_, rfl⟩
  have hltR := h.lt hl0
  rw [hn] at hl0 hl
  rw [hN] at hltR
  obtain ⟨V, hV⟩ : ∃ V, (w.alloc (.cells #[.int .i64 6, .int .i64 0, .int .i64 0, .string ⟨#[]⟩, .slice none 0 0, .slice (some ⟨R0, 0, none⟩) n cap] 31)).alloc (.cells #[.int .i64 0, .int .i64 0, .int .i64 0, .string ⟨#[]⟩, .slice none 0 0, .slice none 0 0] 31) = V := ⟨_, rfl⟩
  have hVs : V.heap.size = R + 1 := by rw [← hV]; simp [hN]; omega
  have bA : Blk V N 31 #[.int .i64 6, .int .i64 0, .int .i64 0, .string ⟨#[]⟩, .slice none 0 0, .slice (some ⟨R0, 0, none⟩) n cap] := by
    rw [← hV, ← hN]
    exact (Blk.new w _ _).alloc _
  have bB : Blk V R 31 #[.int .i64 0, .int .i64 0, .int .i64 0, .string ⟨#[]⟩, .slice none 0 0, .slice none 0 0] := by
    rw [← hV]
    have := Blk.new (w.alloc (.cells #[.int .i64 6, .int .i64 0, .int .i64 0, .string ⟨#[]⟩, .slice none 0 0, .slice (some ⟨R0, 0, none⟩) n cap] 31)) 31 #[.int .i64 0, .int .i64 0, .int .i64 0, .string ⟨#[]⟩, .slice none 0 0, .slice none 0 0]
    rw [World.size_alloc, hN, hR] at this
    exact this
  have hBV : Below N w V := by rw [← hV, ← hN]; exact ((Below.refl _ w).alloc (Nat.le_refl _) _).alloc (by simp) _
  have HR0 := Lib.hid (h.below hBV hltR)
  have HB := Lib.hid hBV
  have HA := Lib.hid bA
  have HBb := Lib.hid bB
  have HS := Lib.hid (show N ≤ R ∧ N ≠ R ∧ V.heap.size = R + 1 ∧ R0 < N by omega)
  have HN := Lib.hid hn
  obtain ⟨⟨a0, a1, a2, a3, a4, a5⟩, _⟩ := six_cells bA
  rw [hN, hn]
  go_enter Try.func71, Try.ntmps71
  go_upto_region 1 with fail
  clear bA bB hV hN hVs hR h hBV hltR hn
  go_wp2_with fail
  refine (same_any 6 0 (some ⟨R0, 0, none⟩) n cap V).mono ?_
  rintro e w1 ⟨rfl, hb⟩
  have hA1 := HA.out.below hb HA.out.lt
  have hB1 := HBb.out.below hb HBb.out.lt
  have hW1 := HB.out.trans (hb.mono (by rw [HS.out.2.2.1]; have := HS.out.1; omega))
  have hr1 := HR0.out.below hb (by rw [HS.out.2.2.1]; have := HS.out; omega)
  have hs1 : R + 1 ≤ w1.heap.size := by have := hb.size; rw [HS.out.2.2.1] at this; exact this
  obtain ⟨⟨b0, b1, b2, b3, b4, b5⟩, ⟨f0, f1, f2, f3, f4, f5⟩⟩ := six_cells hA1
  clear a0 a1 a2 a3 a4 a5
  have H1 := Lib.hid (And.intro hA1 (And.intro hB1 (And.intro hW1 (And.intro hr1 hs1))))
  clear hb hA1 hB1 hW1 hr1 hs1
  go_upto_region 2 with fail
  obtain ⟨w2, hw2⟩ : ∃ w2, (((((w1.setCell ⟨N, 0, none⟩ (.int .i64 6)).setCell ⟨N, 1, none⟩ (.int .i64 0)).setCell ⟨N, 2, none⟩ (.int .i64 0)).setCell ⟨N, 3, none⟩ (.string ⟨#[]⟩)).setCell ⟨N, 4, none⟩ (.slice none 0 0)).setCell ⟨N, 5, none⟩ (.slice (some ⟨R0, 0, none⟩) n cap) = w2 := ⟨_, rfl⟩
  have HA2 := Lib.hid (show Blk w2 N 31 #[.int .i64 6, .int .i64 0, .int .i64 0, .string ⟨#[]⟩, .slice none 0 0, .slice (some ⟨R0, 0, none⟩) n cap] by rw [← hw2]; exact (((((H1.out.1.set_ 0 _).set_ 1 _).set_ 2 _).set_ 3 _).set_ 4 _).set_ 5 _)
  have HB2 := Lib.hid (show Blk w2 R 31 #[.int .i64 0, .int .i64 0, .int .i64 0, .string ⟨#[]⟩, .slice none 0 0, .slice none 0 0] by rw [← hw2]; have hne : R ≠ N := fun e => HS.out.2.1 e.symm; exact (((((H1.out.2.1.far (p := ⟨N, 0, none⟩) hne _).far (p := ⟨N, 1, none⟩) hne _).far (p := ⟨N, 2, none⟩) hne _).far (p := ⟨N, 3, none⟩) hne _).far (p := ⟨N, 4, none⟩) hne _).far (p := ⟨N, 5, none⟩) hne _)
  have HW2 := Lib.hid (show Below N w1 w2 ∧ Below N w w2 by rw [← hw2]; exact ⟨below_six (Below.refl _ _) (Nat.le_refl _) _ _ _ _ _ _, below_six H1.out.2.2.1 (Nat.le_refl _) _ _ _ _ _ _⟩)
  have HR2 := Lib.hid (show ORow w2 R0 l ∧ R + 1 ≤ w2.heap.size from ⟨H1.out.2.2.2.1.below HW2.out.1 HS.out.2.2.2, Nat.le_trans H1.out.2.2.2.2 HW2.out.1.size⟩)
  rw [hw2]
  clear hw2 b0 b1 b2 b3 b4 b5 f0 f1 f2 f3 f4 f5 H1
  obtain ⟨⟨b0, b1, b2, b3, b4, b5⟩, ⟨f0, f1, f2, f3, f4, f5⟩⟩ := six_cells HA2.out
  go_wp2_with fail
  refine (sclone_nil w2).mono ?_
  rintro e w' ⟨rfl, rfl⟩
  go_upto_region 3 with fail
  obtain ⟨w3, hw3⟩ : ∃ w3, w2.setCell ⟨N, 4, none⟩ (.slice none 0 0) = w3 := ⟨_, rfl⟩
  have HA3 := Lib.hid (show Blk w3 N 31 #[.int .i64 6, .int .i64 0, .int .i64 0, .string ⟨#[]⟩, .slice none 0 0, .slice (some ⟨R0, 0, none⟩) n cap] by rw [← hw3]; exact HA2.out.set_ 4 _)
  have HB3 := Lib.hid (show Blk w3 R 31 #[.int .i64 0, .int .i64 0, .int .i64 0, .string ⟨#[]⟩, .slice none 0 0, .slice none 0 0] by rw [← hw3]; exact HB2.out.far (p := ⟨N, 4, none⟩) (fun e => HS.out.2.1 e.symm) _)
  have HW3 := Lib.hid (show Below N w2 w3 ∧ Below N w w3 by rw [← hw3]; exact ⟨(Below.refl _ _).setCell (p := ⟨N, 4, none⟩) (Nat.le_refl _) _, HW2.out.2.setCell (p := ⟨N, 4, none⟩) (Nat.le_refl _) _⟩)
  have HR3 := Lib.hid (show ORow w3 R0 l ∧ R + 1 ≤ w3.heap.size from ⟨HR2.out.1.below HW3.out.1 HS.out.2.2.2, Nat.le_trans HR2.out.2 HW3.out.1.size⟩)
  rw [hw3]
  clear hw3 b0 b1 b2 b3 b4 b5 f0 f1 f2 f3 f4 f5 HA2 HB2 HW2 HR2
  obtain ⟨⟨b0, b1, b2, b3, b4, b5⟩, _⟩ := six_cells HA3.out
  have HCl := Lib.hid (oclone_any R0 cap l w3 HR3.out.1 (by rw [HN.out]; exact hl0) (by rw [HN.out]; exact hl))
  rw [HN.out] at HCl
  go_wp2_with fail
  refine HCl.out.mono ?_
  rintro e w4 ⟨g, c, rfl, hown, hb4⟩
  have hA4 := HA3.out.below hb4 HA3.out.lt
  have hB4 := HB3.out.below hb4 HB3.out.lt
  have hW4 := HW3.out.2.trans (hb4.mono (by have := HR3.out.2; have := HS.out.1; omega))
  have hg4 : R + 1 ≤ g := Nat.le_trans HR3.out.2 ((World.ownsRow.lt hown g rfl).1)
  have hown2 : OwnO w4 (R + 1) (.slice (some ⟨g, 0, none⟩) n c) n l := own_base hown HR3.out.2
  obtain ⟨⟨d0, d1, d2, d3, d4, d5⟩, ⟨f0, f1, f2, f3, f4, f5⟩⟩ := six_cells hA4
  have H4 := Lib.hid (And.intro hA4 (And.intro hB4 (And.intro hW4 (And.intro hg4 hown2))))
  clear hb4 hown hA4 hB4 hW4 hg4 hown2 b0 b1 b2 b3 b4 b5 HA3 HB3 HW3 HR3 HCl
  go_upto_region 4 with fail
  obtain ⟨w5, hw5⟩ : ∃ w5, w4.setCell ⟨N, 5, none⟩ (.slice (some ⟨g, 0, none⟩) n c) = w5 := ⟨_, rfl⟩
  have HI : Hid (ChgAt w N N R g c l w5) := Lib.hid (by
    obtain ⟨q1, q2, q3, q4, q5⟩ := H4.out
    refine ⟨?_, ?_, ?_, ?_⟩
    · rw [← hw5, HN.out]; exact q1.set_ 5 _
    · rw [← hw5]; exact q2.far (p := ⟨N, 5, none⟩) (fun e => HS.out.2.1 e.symm) _
    · rw [← hw5, HN.out]
      exact World.ownsRow.kept q5 (row := some N) ⟨rfl, rfl, rfl, by simp, fun k _ hk => Below.heap_setCell _ _ _ _ (fun e => hk (by rw [e]))⟩ (Or.inr (by simp [Value.ownBlock]; have := HS.out; omega))
    · rw [← hw5]; exact q3.setCell (p := ⟨N, 5, none⟩) (Nat.le_refl _) _)
  have HG := Lib.hid (show N ≤ g ∧ N ≠ g ∧ R ≠ g by have := H4.out.2.2.2.1; have := HS.out; omega)
  rw [hw5]
  clear hw5 d0 d1 d2 d3 d4 d5 f0 f1 f2 f3 f4 f5 H4
  obtain ⟨⟨b0, b1, b2, b3, b4, b5⟩, _⟩ := six_cells HI.out.bo
  rw [HN.out] at b5
  go_wp2_with fail
  clear b0 b1 b2 b3 b4 b5
  go_loopw [21] (fun i wr => ∃ k : Nat, k ≤ n ∧ i = .int .i64 (k : Int) ∧ Hid (ChgAt w N N R g c l wr)) (fun i _ => n - (intOf i).toNat)
  case atStart => exact ⟨0, by omega, rfl, HI⟩
  case round =>
    clear HI
    obtain ⟨k, hk, rfl, HI⟩ := hrel
    by_cases hlt : k < n
    · have hk' : k < l.length := by rw [HN.out]; exact hlt
      have hik : (k : Int) < (n : Int) := by omega
      have hik0 : (0 : Int) ≤ (k : Int) := by omega
      obtain ⟨x, hx⟩ : ∃ x, l[k].1 = x := ⟨_, rfl⟩
      obtain ⟨y, hy⟩ : ∃ y, l[k].2 = y := ⟨_, rfl⟩
      obtain ⟨r0, r1, r2, r3, r4, r5⟩ := ORow.six (OwnO.row HI.out.own rfl) hk'
      rw [hx] at r0
      rw [hy] at r1
      obtain ⟨Z, hZ⟩ : ∃ Z, wr.heap.size = Z := ⟨_, rfl⟩
      have HK := Lib.hid (And.intro hlt (And.intro hx hy))
      have HKl := Lib.hid hk'
      go_upto_region 7 with fail
      obtain ⟨w6, hw6⟩ : ∃ w6, wr.alloc (.cells #[.int .i64 x, .int .i64 y, .int .i64 0, .string ⟨#[]⟩, .slice none 0 0, .slice none 0 0] 31) = w6 := ⟨_, rfl⟩
      have HI6 : Hid (ChgAt w N N R g c l w6) := Lib.hid (by rw [← hw6]; exact HI.out.keep ((Below.refl _ wr).alloc (Nat.le_refl _) _) (Nat.le_of_lt HI.out.bo.lt))
      have HZ6 := Lib.hid (show Blk w6 Z 31 #[.int .i64 x, .int .i64 y, .int .i64 0, .string ⟨#[]⟩, .slice none 0 0, .slice none 0 0] by rw [← hw6, ← hZ]; exact Blk.new wr _ _)
      have HZg := Lib.hid (show Z ≠ g by have := (World.ownsRow.lt HI.out.own g rfl).2; omega)
      have HN6 := Lib.hid (show N ≤ w6.heap.size from Nat.le_of_lt HI6.out.bo.lt)
      rw [hw6]
      clear hw6 hZ HI r0 r1 r2 r3 r4 r5 hx hy hlt hk
      have HS6 : Hid (∀ W2, Below w6.heap.size w6 W2 → W2.cell? ⟨N, 5, none⟩ = some (.slice (some ⟨g, 0, none⟩) n c) ∧ W2.cell? ⟨Z, 0, none⟩ = some (.int .i64 x) ∧ W2.cell? ⟨Z, 1, none⟩ = some (.int .i64 y) ∧ W2.cell? ⟨Z, 2, none⟩ = some (.int .i64 0) ∧ W2.cell? ⟨Z, 3, none⟩ = some (.string ⟨#[]⟩) ∧ W2.cell? ⟨Z, 4, none⟩ = some (.slice none 0 0) ∧ W2.cell? ⟨Z, 5, none⟩ = some (.slice none 0 0)) := Lib.hid (fun W2 hb2 => by
        obtain ⟨⟨_, _, _, _, _, t0⟩, _⟩ := six_cells (HI6.out.bo.below hb2 HI6.out.bo.lt)
        obtain ⟨⟨t1, t2, t3, t4, t5, t6⟩, _⟩ := six_cells (HZ6.out.below hb2 HZ6.out.lt)
        exact ⟨t0.trans (by rw [HN.out]), t1, t2, t3, t4, t5, t6⟩)
      have HSe : Hid (∀ W1, Below w6.heap.size w6 W1 → (fun W2 : World => W2.cell? ⟨N, 5, none⟩ = some (.slice (some ⟨g, 0, none⟩) n c) ∧ W2.cell? ⟨Z, 0, none⟩ = some (.int .i64 x) ∧ W2.cell? ⟨Z, 1, none⟩ = some (.int .i64 y) ∧ W2.cell? ⟨Z, 2, none⟩ = some (.int .i64 0) ∧ W2.cell? ⟨Z, 3, none⟩ = some (.string ⟨#[]⟩) ∧ W2.cell? ⟨Z, 4, none⟩ = some (.slice none 0 0) ∧ W2.cell? ⟨Z, 5, none⟩ = some (.slice none 0 0)) ((((((W1.setCell ⟨g, k * 6, none⟩ (.int .i64 x)).setCell ⟨g, k * 6 + 1, none⟩ (.int .i64 y)).setCell ⟨g, k * 6 + 2, none⟩ (.int .i64 0)).setCell ⟨g, k * 6 + 3, none⟩ (.string ⟨#[]⟩)).setCell ⟨g, k * 6 + 4, none⟩ (.slice none 0 0)).setCell ⟨g, k * 6 + 5, none⟩ (.slice none 0 0))) := Lib.hid (fun W1 hb2 => by
        obtain ⟨⟨_, _, _, _, _, t0⟩, _⟩ := six_cells (((((((HI6.out.bo.below hb2 HI6.out.bo.lt).far (p := ⟨g, k * 6, none⟩) HG.out.2.1 _).far (p := ⟨g, k * 6 + 1, none⟩) HG.out.2.1 _).far (p := ⟨g, k * 6 + 2, none⟩) HG.out.2.1 _).far (p := ⟨g, k * 6 + 3, none⟩) HG.out.2.1 _).far (p := ⟨g, k * 6 + 4, none⟩) HG.out.2.1 _).far (p := ⟨g, k * 6 + 5, none⟩) HG.out.2.1 _)
        obtain ⟨⟨t1, t2, t3, t4, t5, t6⟩, _⟩ := six_cells (((((((HZ6.out.below hb2 HZ6.out.lt).far (p := ⟨g, k * 6, none⟩) HZg.out _).far (p := ⟨g, k * 6 + 1, none⟩) HZg.out _).far (p := ⟨g, k * 6 + 2, none⟩) HZg.out _).far (p := ⟨g, k * 6 + 3, none⟩) HZg.out _).far (p := ⟨g, k * 6 + 4, none⟩) HZg.out _).far (p := ⟨g, k * 6 + 5, none⟩) HZg.out _)
        exact ⟨t0.trans (by rw [HN.out]), t1, t2, t3, t4, t5, t6⟩)
      have s0 := HS6.out w6 (Below.refl _ _)
      have HCf : Hid (∀ W2, Below w6.heap.size w6 W2 → W2.cell? ⟨g, k * 6, none⟩ = some (.int .i64 x) ∧ W2.cell? ⟨g, k * 6 + 1, none⟩ = some (.int .i64 y) ∧ W2.cell? ⟨g, k * 6 + 2, none⟩ = some (.int .i64 0) ∧ W2.cell? ⟨g, k * 6 + 3, none⟩ = some (.string ⟨#[]⟩) ∧ W2.cell? ⟨g, k * 6 + 4, none⟩ = some (.slice none 0 0) ∧ W2.cell? ⟨g, k * 6 + 5, none⟩ = some (.slice none 0 0) ∧ ∀ i, W2.frozen? ⟨g, i, none⟩ = false) := Lib.hid (fun W2 hb2 => by
        have hI2 := HI6.out.keep hb2 HN6.out
        obtain ⟨r0, r1, r2, r3, r4, r5⟩ := ORow.six (OwnO.row hI2.own rfl) HKl.out
        exact ⟨r0.trans (by rw [HK.out.2.1]), r1.trans (by rw [HK.out.2.2]), r2, r3, r4, r5, fun i => World.ownsRow.frozenAt hI2.own i⟩)
      obtain ⟨s1, s2, s3, s4, s5, s6, s7⟩ := s0
      refine wp_region_held_drew (S := fun W2 => W2.cell? ⟨N, 5, none⟩ = some (.slice (some ⟨g, 0, none⟩) n c) ∧ W2.cell? ⟨Z, 0, none⟩ = some (.int .i64 x) ∧ W2.cell? ⟨Z, 1, none⟩ = some (.int .i64 y) ∧ W2.cell? ⟨Z, 2, none⟩ = some (.int .i64 0) ∧ W2.cell? ⟨Z, 3, none⟩ = some (.string ⟨#[]⟩) ∧ W2.cell? ⟨Z, 4, none⟩ = some (.slice none 0 0) ∧ W2.cell? ⟨Z, 5, none⟩ = some (.slice none 0 0)) (by kernel_rfl) (HS6.out _ ((Below.refl _ w6).drew)) (fun hHeld => ?_)
      refine wpAnyH_take (i := 0) (v := ?_) rfl (by kernel_rfl) (by kernel_rfl) (by kernel_rfl) (fun _ _ _ h => h) (Or.inl ⟨by rfl, ?_⟩) hHeld ?_
      rotate_left
      · intro w hSw
        obtain ⟨u0, u1, u2, u3, u4, u5, u6⟩ := hSw
        go_simp
        first | done | with_reducible rfl
      try simp only [Act.put, List.setIfInBounds_toArray]
      refine wpAnyH_take (i := 1) (v := ?_) rfl (by kernel_rfl) (by kernel_rfl) (by kernel_rfl) (fun _ _ _ h => h) (Or.inl ⟨by rfl, ?_⟩) hHeld ?_
      rotate_left
      · intro w hSw
        obtain ⟨u0, u1, u2, u3, u4, u5, u6⟩ := hSw
        go_simp
        first | done | with_reducible rfl
      try simp only [Act.put]
      refine wpAnyH_take (i := 2) (v := ?_) rfl (by kernel_rfl) (by kernel_rfl) (by kernel_rfl) (fun _ _ _ h => h) (Or.inl ⟨by rfl, ?_⟩) hHeld ?_
      rotate_left
      · intro w hSw
        obtain ⟨u0, u1, u2, u3, u4, u5, u6⟩ := hSw
        go_simp
        first | done | with_reducible rfl
      try simp only [Act.put]
      refine wpAnyH_take (i := 3) (v := ?_) rfl (by kernel_rfl) (by kernel_rfl) (by kernel_rfl) (fun _ _ _ h => h) (Or.inl ⟨by rfl, ?_⟩) hHeld ?_
      rotate_left
      · intro w hSw
        obtain ⟨u0, u1, u2, u3, u4, u5, u6⟩ := hSw
        go_simp
        first | done | with_reducible rfl
      try simp only [Act.put]
      refine wpAnyH_take (i := 4) (v := ?_) rfl (by kernel_rfl) (by kernel_rfl) (by kernel_rfl) (fun _ _ _ h => h) (Or.inl ⟨by rfl, ?_⟩) hHeld ?_
      rotate_left
      · intro w hSw
        obtain ⟨u0, u1, u2, u3, u4, u5, u6⟩ := hSw
        go_simp
        first | done | with_reducible rfl
      try simp only [Act.put]
      refine wpAnyH_ready (rs := [5]) (by kernel_rfl) (by simp) ?_
      refine AllReadyH.cons rfl (fun K hK => ?_) AllReadyH.nil
      go_simp
      refine (changed_leaf x y _).mono ?_
      rintro e w7 ⟨rfl, hb⟩
      have HB7 : Hid (Below w6.heap.size w6 w7) := Lib.hid (((Below.refl _ w6).drew).trans hb)
      refine hK.out _ _ (HS6.out _ HB7.out) (fun hHeld => ?_)
      clear hb hK K s1 s2 s3 s4 s5 s6 s7
      refine wpAnyH_take (i := 6) (v := ?_) rfl (by kernel_rfl) (by kernel_rfl) (by kernel_rfl) (fun _ _ _ h => h) (Or.inl ⟨by rfl, ?_⟩) hHeld ?_
      rotate_left
      · intro w hSw
        obtain ⟨u0, u1, u2, u3, u4, u5, u6⟩ := hSw
        go_simp
        first | done | with_reducible rfl
      try simp only [Act.put, List.setIfInBounds_toArray]
      obtain ⟨r0, r1, r2, r3, r4, r5, rf⟩ := HCf.out _ HB7.out
      have f0 := rf (k * 6)
      have f1 := rf (k * 6 + 1)
      have f2 := rf (k * 6 + 2)
      have f3 := rf (k * 6 + 3)
      have f4 := rf (k * 6 + 4)
      have f5 := rf (k * 6 + 5)
      clear rf
      have HSw := HSe.out _ HB7.out
      have H8 := (HI6.out.keep HB7.out HN6.out).store HKl.out HG.out.1 HG.out.2.1 HG.out.2.2
      rw [HK.out.2.1, HK.out.2.2] at H8
      obtain ⟨j0, hj⟩ : ∃ j, k * 6 = j := ⟨_, rfl⟩
      rw [hj] at HSw H8
      have HSw2 := Lib.hid HSw
      have H8' := Lib.hid H8
      clear HSw H8
      rw [hj] at r0 r1 r2 r3 r4 r5 f0 f1 f2 f3 f4 f5
      refine wpAnyH_ready (rs := [7]) (by kernel_rfl) (by simp) ?_
      refine AllReadyH.cons rfl (fun K hK => ?_) AllReadyH.nil
      go_simp
      refine hK.out _ _ HSw2.out (fun hHeld => ?_)
      clear hK K r0 r1 r2 r3 r4 r5 f0 f1 f2 f3 f4 f5
      refine wpAnyH_done (by kernel_rfl) ?_ _
      go_wp2_with fail
      go_roundw
      case rel => exact ⟨k + 1, by have := HK.out.1; omega, by go_num, H8'⟩
      case measure => simp [intOf]; have := HK.out.1; omega
    · obtain rfl : k = n := by omega
      obtain ⟨⟨b0, b1, b2, b3, b4, b5⟩, _⟩ := six_cells HI.out.bo
      rw [HN.out] at b5
      obtain ⟨⟨c0, c1, c2, c3, c4, c5⟩, ⟨g0, g1, g2, g3, g4, g5⟩⟩ := six_cells HI.out.br
      have HRow := Lib.hid (OwnO.row HI.out.own rfl)
      have HBl := Lib.hid HI.out.below
      clear hlt hk
      go_wp2_with fail
      refine bodyPost_ret (v := .agg #[.int .i64 6, .int .i64 0, .int .i64 0, .string ⟨#[]⟩, .slice none 0 0, .slice (some ⟨g, 0, none⟩) k c]) (by simp [results, Try.results71, go_sem, c0, c1, c2, c3, c4, c5]) rfl ?_
      exact ⟨g, c, rfl, ((((((HRow.out.far (p := ⟨R, 0, none⟩) HG.out.2.2.symm _).far (p := ⟨R, 1, none⟩) HG.out.2.2.symm _).far (p := ⟨R, 2, none⟩) HG.out.2.2.symm _).far (p := ⟨R, 3, none⟩) HG.out.2.2.symm _).far (p := ⟨R, 4, none⟩) HG.out.2.2.symm _).far (p := ⟨R, 5, none⟩) HG.out.2.2.symm _), HG.out.1, below_six HBl.out HS.out.1 _ _ _ _ _ _⟩
end Go.Proofs.Ythihmbicalacfaa
