/-
  Lemmas and walks, joined: LexM5, LexAp.
-/
import Derived.Test.YtbmiogoigjdceaaDoorQ11
import Derived.Test.YtbmiogoigjdceaaDoorT01
import Derived.Test.YtbmiogoigjdceaaDoorQ18
import Derived.Test.YtbmiogoigjdceaaDoorR01
import Derived.Deep.RegionHeld3
namespace Go.Proofs.YtbmiogoigjdceaaDoor.Lex
open Go.Proofs.YtbmiogoigjdceaaDoor.Oct Go.Proofs.YtbmiogoigjdceaaDoor.Fix

def ChainT (l : List UInt8) : Nat → List Tk → Prop
  | a, [] => (nextR l a).err = 0 ∧ (nextR l a).kind = 0
  | a, t :: ts => (nextR l a).err = 0 ∧ (nextR l a).kind ≠ 0 ∧ t = tkOf (nextI l a) (nextR l a) ∧ ChainT l (nextI l a + (nextR l a).len) ts
theorem cons_err {t : Tk} {r : Up} (h : (consT t r).2.2 = 0) : r.2.2 = 0 ∧ consT t r = (t :: r.1, r.2) := by
  unfold consT at h ⊢
  by_cases h2 : r.2.2 = 0
  · rw [if_pos h2]; exact ⟨h2, rfl⟩
  · rw [if_neg h2] at h; exact absurd h h2
theorem chain_of (n : Nat) : ∀ (l : List UInt8) (a : Nat), a ≤ l.length → l.length < n + a → (uptoN n l a).2.2 = 0 → ChainT l a (uptoN n l a).1 := by
  induction n with
  | zero => intro l a h h2; omega
  | succ n ih =>
    intro l a h h2 h3
    by_cases he : (nextR l a).err = 0
    · by_cases hk : (nextR l a).kind = 0
      · rw [upto_end he hk]; exact ⟨he, hk⟩
      · rw [upto_more he hk] at h3 ⊢
        obtain ⟨n1, n2, n3⟩ := next_some h he hk
        have n4 := (next_le l a h).1
        obtain ⟨c1, c2⟩ := cons_err h3
        rw [c2]
        exact ⟨he, hk, rfl, ih l _ n3 (by omega) c1⟩
    · rw [upto_bad he] at h3; exact absurd h3 he
theorem cons_bad {t : Tk} {r : Up} (h : (consT t r).2.2 ≠ 0) : consT t r = r := by
  unfold consT at h ⊢
  by_cases h2 : r.2.2 = 0
  · rw [if_pos h2] at h; exact absurd h2 h
  · rw [if_neg h2]
/-- Where there is an error: no tokens, and its place is that of a byte that is neither white nor a comment's. -/
theorem upto_err (n : Nat) : ∀ (l : List UInt8) (a : Nat), a ≤ l.length → (uptoN n l a).2.2 ≠ 0 → (uptoN n l a).1 = [] ∧ ∃ p : Nat, (uptoN n l a).2.1 = (p : Int) ∧ p < l.length ∧ nextI l p = p := by
  induction n with
  | zero => intro l a h h3; rw [upto_zero] at h3; exact absurd rfl h3
  | succ n ih =>
    intro l a h h3
    by_cases he : (nextR l a).err = 0
    · by_cases hk : (nextR l a).kind = 0
      · rw [upto_end he hk] at h3; exact absurd rfl h3
      · rw [upto_more he hk] at h3 ⊢
        obtain ⟨n1, n2, n3⟩ := next_some h he hk
        have hcb := cons_bad h3
        rw [hcb] at h3 ⊢
        exact ih l _ n3 h3
    · rw [upto_bad he]
      refine ⟨rfl, nextI l a, rfl, ?_, ?_⟩
      · rcases Nat.lt_or_ge (nextI l a) l.length with h1 | h1
        · exact h1
        · rw [next_end h1] at he; exact absurd rfl he
      · have := skip_idem (l.drop a)
        rw [List.drop_drop] at this
        show nextI l a + skipN false (l.drop (nextI l a)) = nextI l a
        unfold nextI
        rw [this]
        rfl
theorem chain_end {l : List UInt8} {a : Nat} (ha : a ≤ l.length) (h : ChainT l a []) : nextI l a = l.length := by
  obtain ⟨h1, h2⟩ := h
  have h3 := (next_le l a ha).2
  rcases Nat.lt_or_ge (nextI l a) l.length with h4 | h4
  · exfalso
    obtain ⟨c, t, e, hw, h37⟩ := next_head ha h4
    have e2 : nextR l a = tokR (c :: t) := by unfold nextR; rw [e]
    rw [e2] at h1 h2
    exact (tok_take c t hw h37 h1).2.2.1 h2
  · omega
/-- A token, and its bytes alone. -/
theorem chain_alone {l : List UInt8} {a : Nat} (ha : a ≤ l.length) (he : (nextR l a).err = 0) (hk : (nextR l a).kind ≠ 0) :
    nextI ((l.drop (nextI l a)).take (nextR l a).len) 0 = 0 ∧ nextR ((l.drop (nextI l a)).take (nextR l a).len) 0 = nextR l a := by
  obtain ⟨n1, n2, n3⟩ := next_some ha he hk
  obtain ⟨c, t, e, hw, h37⟩ := next_head ha n1
  have e2 : nextR l a = tokR (c :: t) := by unfold nextR; rw [e]
  rw [e2] at he
  obtain ⟨t1, t2, t3, t4⟩ := tok_take c t hw h37 he
  rw [e, e2]
  have h0 : nextI ((c :: t).take (tokR (c :: t)).len) 0 = 0 := by
    obtain ⟨q, hq⟩ : ∃ q, (tokR (c :: t)).len = q + 1 := ⟨(tokR (c :: t)).len - 1, by omega⟩
    rw [hq, List.take_succ_cons]
    unfold nextI
    rw [List.drop_zero, skipN_stop _ hw h37]
  refine ⟨h0, ?_⟩
  unfold nextR
  rw [h0, List.drop_zero, t4]
end Go.Proofs.YtbmiogoigjdceaaDoor.Lex
namespace Go.Proofs.YtbmiogoigjdceaaDoor
open Go.RowKit Oct Fix Lex

theorem skip_rq (s : ByteArray) (a r : Int) (w : World) (hs : s.size ≤ 4000000000) (h : skipS s.data.toList a = r) :
    Calls Tryd.prog 16 #[.string s, .int .i64 a] w fun e w' => e = .returned (.int .i64 r) ∧ w' = w := (skip_rc s a r w hs h).mono fun _ _ ⟨h1, h2⟩ => ⟨h1, h2.symm⟩
theorem skip_is (s : ByteArray) (a : Nat) (h : a ≤ s.size) : skipS s.data.toList (a : Int) = ((nextI s.data.toList a : Nat) : Int) := by
  obtain ⟨k1, _⟩ := skip_next s (a : Int) (by omega) (by omega)
  rw [k1, nxI_at]

theorem own_far {w : World} {base : Nat} {e : TypeId} {size : Nat} {v : Value} {n : Nat} {xs : List Value} (h : w.ownsRow base e size v n xs) {g i : Nat} {u : Value} (hne : v.ownBlock ≠ some g) : (w.setCell ⟨g, i, none⟩ u).ownsRow base e size v n xs :=
  h.kept (row := some g) (grown_set (grown_refl w _) i u) (.inr hne)
theorem upto_zero_place (n : Nat) : ∀ (l : List UInt8) (a : Nat), (uptoN n l a).2.2 = 0 → uptoN n l a = ((uptoN n l a).1, 0, 0) := by
  induction n with
  | zero => intro l a _; rw [upto_zero]
  | succ n ih =>
    intro l a h
    by_cases he : (nextR l a).err = 0
    · by_cases hk : (nextR l a).kind = 0
      · rw [upto_end he hk]
      · rw [upto_more he hk] at h ⊢
        obtain ⟨c1, c2⟩ := cons_err h
        have := ih l _ c1
        rw [c2, this]
    · rw [upto_bad he] at h; exact absurd h he

set_option maxRecDepth 100000 in
set_option maxHeartbeats 8000000 in
theorem apart_bad (s : ByteArray) (p : Nat) (c : Int) (w : World) (hm : MaxLenAt w) (hs : s.size ≤ 1500) (hc : c ≠ 0) (hp : p < s.size) (hi : nextI s.data.toList p = p)
    (hr : ∀ W : World, MaxLenAt W → Calls Tryd.prog 11 #[.string s] W (UptoEnd ([], (p : Int), c) W)) :
    Calls Tryd.prog 5 #[.string s] w fun e w' => e = .returned (.bool true) ∧ Below w.heap.size w w' := by
  have hs' : ¬ (1500 : Int) < (s.size : Int) := by omega
  have bc : (c != 0) = true := by simpa using hc
  have hsk := skip_is s p (by omega)
  rw [hi] at hsk
  have HSK := Lib.hid hsk
  have HC := Lib.hid hr
  have HM := Lib.hid hm
  have p0 : (0 : Int) ≤ (p : Int) := by omega
  have p1 : (p : Int) < (s.size : Int) := by omega
  clear hm hc hi hsk hr
  go_enter Tryd.func5, Tryd.ntmps5
  go_wp2_with fail
  refine (HC.out _ HM.out).mono ?_
  rintro e v1 ⟨A, C, rfl, hown, hb⟩
  clear hown
  go_upto_region 4 with (fail)
  obtain ⟨w1, hw1⟩ : ∃ w1, v1.alloc (.cells #[.int .i64 (p : Int), .int .i64 c] 31) = w1 := ⟨_, rfl⟩
  have hF : Blk w1 v1.heap.size 31 #[.int .i64 (p : Int), .int .i64 c] := by rw [← hw1]; exact Blk.new _ _ _
  have HB1 := Lib.hid (show Below w.heap.size w w1 by rw [← hw1]; exact hb.alloc hb.size _)
  have HM1 : Hid (MaxLenAt w1) := Lib.hid (HM.out.upto HB1.out (Nat.le_refl _))
  rw [hw1]
  clear hw1 hb
  obtain ⟨b1, hb1⟩ : ∃ b1, v1.heap.size = b1 := ⟨_, rfl⟩
  rw [hb1] at hF
  simp only [hb1]
  clear hb1
  have x0 := hF.cell 0
  have x1 := hF.cell 1
  simp only [List.getElem?_toArray, List.getElem?_cons_zero, List.getElem?_cons_succ] at x0 x1
  have hlt1 : b1 < w1.heap.size := hF.lt
  clear hF
  go_upto_region 5 with (fail)
  go_region_held3 (fun w' => w'.cell? ⟨b1, 0, none⟩ = some (.int .i64 (p : Int))) (go_keep)
    (first | (go_at_call 16; refine (skip_rq s _ _ _ (by omega) HSK.out).mono ?_; rintro e w' ⟨rfl, rfl⟩) | (go_at_call 8; refine (lives_ok _ (show MaxLenAt w1.drew from HM1.out)).mono ?_; rintro e w2 ⟨rfl, hb2⟩; have z0 : w2.cell? ⟨b1, 0, none⟩ = some (.int .i64 (p : Int)) := (hb2.cell (p := ⟨b1, 0, none⟩) hlt1).trans x0; have HB2 := Lib.hid (HB1.out.drew.trans (hb2.mono HB1.out.size)); clear hb2))
  all_goals
    go_wp2_with fail
    go_ret
    exact ⟨rfl, HB2.out⟩

theorem alone_next (s : ByteArray) (i n : Nat) (R : TR) (w : World) (hm : MaxLenAt w) (hs : s.size ≤ 1500) (hi : n + i ≤ s.size) (h1 : nextI ((s.data.toList.drop i).take n) 0 = 0) (h2 : nextR ((s.data.toList.drop i).take n) 0 = R) (he : R.err = 0) (hn : R.len = n) :
    Calls Tryd.prog 9 #[.string (s.extract i (n + i)), .int .i64 0] w fun e w' => e = .returned (.tuple #[.agg #[.int .i64 R.kind, .int .i64 0, .int .i64 (n : Int), .int .i64 R.num, .string ⟨R.txt.toArray⟩], .int .i64 0]) ∧ Below w.heap.size w w' := by
  have hl : (s.extract i (n + i)).data.toList = (s.data.toList.drop i).take n := by
    rw [ByteArray.data_extract, Array.toList_extract, List.extract_eq_take_drop, Nat.add_sub_cancel]
  have h := lexNext_any (s.extract i (n + i)) 0 w (by rw [ByteArray.size_extract]; omega) hm
  rw [nxI_zero, nxR_zero, hl, h1, h2] at h
  refine h.mono fun e w' ⟨e1, e2⟩ => ⟨e1.trans ?_, e2⟩
  have t1 : tT 0 R = (n : Int) := by unfold tT; rw [if_pos he, hn]; omega
  have t2 : tA 0 R = 0 := by unfold tA; rw [if_pos he]; rfl
  rw [t1, t2, he]
  rfl

set_option maxRecDepth 100000 in
set_option maxHeartbeats 16000000 in
theorem apart_good (s : ByteArray) (ts : List Tk) (w : World) (hm : MaxLenAt w) (hs : s.size ≤ 1500) (hts : ts.length ≤ 100000) (hch : ChainT s.data.toList 0 ts)
    (hr : ∀ W : World, MaxLenAt W → Calls Tryd.prog 11 #[.string s] W (UptoEnd (ts, 0, 0) W)) :
    Calls Tryd.prog 5 #[.string s] w fun e w' => e = .returned (.bool true) ∧ Below w.heap.size w w' := by
  have hs' : ¬ (1500 : Int) < (s.size : Int) := by omega
  have hsl : s.data.toList.length = s.size := by simp
  have HSL := Lib.hid hsl
  have HC := Lib.hid hr
  have HM := Lib.hid hm
  have HCH := Lib.hid hch
  obtain ⟨n, hn⟩ : ∃ n, ts.length = n := ⟨_, rfl⟩
  have HN := Lib.hid hn
  rw [hn] at hts
  clear hm hr hsl hch
  go_enter Tryd.func5, Tryd.ntmps5
  go_wp2_with fail
  refine (HC.out _ HM.out).mono ?_
  rintro e v1 ⟨A, C, rfl, hown, hb⟩
  simp only [hn] at hown
  simp only [hn]
  clear hn
  go_upto_region 4 with (fail)
  obtain ⟨w1, hw1⟩ : ∃ w1, v1.alloc (.cells #[.int .i64 0, .int .i64 0] 31) = w1 := ⟨_, rfl⟩
  have hF : Blk w1 v1.heap.size 31 #[.int .i64 0, .int .i64 0] := by rw [← hw1]; exact Blk.new _ _ _
  have HO1 := Lib.hid (show w1.ownsRow 0 24 5 (.slice A n C) n (rowCells ts) by rw [← hw1]; exact (hown.mono (Nat.zero_le _)).alloc _)
  have HB1 := Lib.hid (show Below w.heap.size w w1 by rw [← hw1]; exact hb.alloc hb.size _)
  rw [hw1]
  clear hw1 hb hown
  obtain ⟨b1, hb1⟩ : ∃ b1, v1.heap.size = b1 := ⟨_, rfl⟩
  rw [hb1] at hF
  simp only [hb1]
  clear hb1
  have x1 := hF.cell 1
  simp only [List.getElem?_toArray, List.getElem?_cons_zero, List.getElem?_cons_succ] at x1
  clear hF
  go_wp2_with fail
  clear x1
  go_loopw [5, 6] (fun pv iv wr => ∃ k p : Nat, k ≤ n ∧ p ≤ s.size ∧ pv = .int .i64 (p : Int) ∧ iv = .int .i64 (k : Int) ∧ ChainT s.data.toList p (ts.drop k) ∧ wr.ownsRow 0 24 5 (.slice A n C) n (rowCells ts) ∧ Below w.heap.size w wr) (fun _ iv _ => n - (intOf iv).toNat)
  case atStart => exact ⟨0, 0, by omega, by omega, rfl, rfl, HCH.out, HO1.out, HB1.out⟩
  case round =>
    obtain ⟨k, p, hk, hp, rfl, rfl, hc, hown, hb⟩ := hrel
    have hbs := hb.size
    have HO := Lib.hid hown
    have HB := Lib.hid hb
    have HMr : Hid (MaxLenAt wr) := Lib.hid (HM.out.upto hb (Nat.le_refl _))
    clear hown hb
    by_cases hlt : k < n
    · have hkl : k < ts.length := by rw [HN.out]; exact hlt
      rw [List.drop_eq_getElem_cons hkl] at hc
      obtain ⟨he, hkd, ht, hcn⟩ := hc
      have hpl : p ≤ s.data.toList.length := by rw [HSL.out]; exact hp
      obtain ⟨n1, n2, n3⟩ := next_some hpl he hkd
      obtain ⟨q1, q2⟩ := chain_alone hpl he hkd
      have n4 := (next_le s.data.toList p hpl).1
      have hsk := skip_is s p hp
      obtain ⟨i, hi⟩ : ∃ i, nextI s.data.toList p = i := ⟨_, rfl⟩
      obtain ⟨R, hR⟩ : ∃ R, nextR s.data.toList p = R := ⟨_, rfl⟩
      obtain ⟨m, hm⟩ : ∃ m, R.len = m := ⟨_, rfl⟩
      rw [hi, hR] at ht hcn q1 q2 n3
      rw [hR] at he hkd n2
      rw [hi] at n1 n4 hsk
      rw [hm] at hcn q1 q2 n3 n2
      rw [HSL.out] at n1 n3
      have HNx := Lib.hid (fun W hW => alone_next s i m R W hW hs (by omega) q1 q2 he hm)
      have HSK := Lib.hid hsk
      have HCN := Lib.hid hcn
      obtain ⟨g1, c1, e1, _⟩ := HO.out.form (by omega)
      injection e1 with e1 _ e3
      subst e1 e3
      have x := fun j (hj : j < 5) => (HO.out.cellAt (k * 5 + j) (by omega)).trans (row_at ts k j hkl hj)
      have x0 := x 0 (by omega)
      have x1 := x 1 (by omega)
      have x2 := x 2 (by omega)
      have x3 := x 3 (by omega)
      have x4 := x 4 (by omega)
      have e5 : (tkOf i R).stop = (m : Int) + (i : Int) := by unfold tkOf; simp only; rw [hm]; omega
      unfold tkCells at x0 x1 x2 x3 x4
      rw [ht] at x0 x1 x2 x3 x4
      rw [e5] at x0 x1 x2 x3 x4
      unfold tkOf at x0 x1 x2 x3 x4
      simp only [List.getElem?_cons_zero, List.getElem?_cons_succ, Nat.add_zero] at x0 x1 x2 x3 x4
      have bk : (R.kind == 0) = false := by simpa using hkd
      have l1 : ¬ (i : Int) < (p : Int) := by omega
      have l2 : ¬ (m : Int) + (i : Int) ≤ (i : Int) := by omega
      have l3 : ¬ (s.size : Int) < (m : Int) + (i : Int) := by omega
      have l4 : (i : Int) ≤ (m : Int) + (i : Int) := by omega
      have i0 : (0 : Int) ≤ (k : Int) := by omega
      have i1 : (k : Int) < (n : Int) := by omega
      clear x ht hcn q1 q2 hsk hi hR hm e5 he hkd
      go_upto_region 11 with (fail)
      obtain ⟨w3, hw3⟩ : ∃ w3, wr.alloc (.cells #[.int .i64 R.kind, .int .i64 (i : Int), .int .i64 ((m : Int) + (i : Int)), .int .i64 R.num, .string ⟨R.txt.toArray⟩] 24) = w3 := ⟨_, rfl⟩
      have hX : Blk w3 wr.heap.size 24 #[.int .i64 R.kind, .int .i64 (i : Int), .int .i64 ((m : Int) + (i : Int)), .int .i64 R.num, .string ⟨R.txt.toArray⟩] := by rw [← hw3]; exact Blk.new _ _ _
      have HO3 := Lib.hid (show w3.ownsRow 0 24 5 (.slice (some ⟨g1, 0, none⟩) n C) n (rowCells ts) by rw [← hw3]; exact HO.out.alloc _)
      have HB3 := Lib.hid (show Below w.heap.size w w3 by rw [← hw3]; exact HB.out.alloc hbs _)
      have HM3 : Hid (MaxLenAt w3) := Lib.hid (HM.out.upto HB3.out (Nat.le_refl _))
      have HX := Lib.hid hX
      rw [hw3]
      clear hw3 x0 x1 x2 x3 x4
      obtain ⟨g2, hg2⟩ : ∃ g2, wr.heap.size = g2 := ⟨_, rfl⟩
      rw [hg2] at hX HX
      simp only [hg2]
      clear hg2
      have x0 := hX.cell 0
      have x1 := hX.cell 1
      have x2 := hX.cell 2
      simp only [List.getElem?_toArray, List.getElem?_cons_zero, List.getElem?_cons_succ] at x0 x1 x2
      clear hX
      go_quiet ((go_at_call 16; exact Calls.quiet_of_same (skip_rq s _ _ _ (by omega) HSK.out)))
      go_wp2_with fail
      refine (HNx.out _ (show MaxLenAt (w3.drewN nq) from HM3.out)).mono ?_
      rintro e w4 ⟨rfl, hb40⟩
      have hb4 : Below w3.heap.size w3 w4 := (below_drewN (Below.refl _ _) nq).trans hb40
      clear hb40
      go_upto_region 14 with (fail)
      obtain ⟨w5, hw5⟩ : ∃ w5, w4.alloc (.cells #[.int .i64 R.kind, .int .i64 0, .int .i64 (m : Int), .int .i64 R.num, .string ⟨R.txt.toArray⟩] 24) = w5 := ⟨_, rfl⟩
      have hX5 : Blk w5 g2 24 #[.int .i64 R.kind, .int .i64 (i : Int), .int .i64 ((m : Int) + (i : Int)), .int .i64 R.num, .string ⟨R.txt.toArray⟩] := by rw [← hw5]; exact (HX.out.below hb4 HX.out.lt).alloc _
      have hY5 : Blk w5 w4.heap.size 24 #[.int .i64 R.kind, .int .i64 0, .int .i64 (m : Int), .int .i64 R.num, .string ⟨R.txt.toArray⟩] := by rw [← hw5]; exact Blk.new _ _ _
      have hO5 : w5.ownsRow 0 24 5 (.slice (some ⟨g1, 0, none⟩) n C) n (rowCells ts) := by rw [← hw5]; exact (own_below HO3.out hb4 (Nat.le_refl _)).alloc _
      have HB5 := Lib.hid (show Below w.heap.size w w5 by rw [← hw5]; exact (HB3.out.trans (hb4.mono HB3.out.size)).alloc (Nat.le_trans HB3.out.size hb4.size) _)
      have hlt2 : g2 < w4.heap.size := Nat.lt_of_lt_of_le HX.out.lt hb4.size
      have hlt1 : g1 < w4.heap.size := Nat.lt_of_lt_of_le (HO3.out.lt g1 rfl).2 hb4.size
      have hwg : w.heap.size ≤ w4.heap.size := Nat.le_trans HB3.out.size hb4.size
      rw [hw5]
      clear hw5 hb4 x0 x1 x2
      obtain ⟨g4, hg4⟩ : ∃ g4, w4.heap.size = g4 := ⟨_, rfl⟩
      rw [hg4] at hY5 hlt2 hlt1 hwg
      simp only [hg4]
      clear hg4
      have hne : ¬ g2 = g4 := by omega
      have hne2 : ¬ g4 = g2 := by omega
      have HO5 := Lib.hid hO5
      have HX5 := Lib.hid hX5
      have HY5 := Lib.hid hY5
      have x1 := hX5.cell 1
      have y1 := hY5.cell 1
      have y2 := hY5.cell 2
      have z1 := hY5.frozen 1
      have z2 := hY5.frozen 2
      simp only [List.getElem?_toArray, List.getElem?_cons_zero, List.getElem?_cons_succ] at x1 y1 y2
      clear hX5 hY5 hO5
      go_upto_region 15 with (fail)
      go_upto_region 16 with (fail)
      obtain ⟨w6, hw6⟩ : ∃ w6, (w5.setCell ⟨g4, 1, none⟩ (.int .i64 (i : Int))).setCell ⟨g4, 2, none⟩ (.int .i64 ((m : Int) + (i : Int))) = w6 := ⟨_, rfl⟩
      have hX6 : Blk w6 g2 24 #[.int .i64 R.kind, .int .i64 (i : Int), .int .i64 ((m : Int) + (i : Int)), .int .i64 R.num, .string ⟨R.txt.toArray⟩] := by rw [← hw6]; exact (HX5.out.far hne _).far hne _
      have hY6 : Blk w6 g4 24 #[.int .i64 R.kind, .int .i64 (i : Int), .int .i64 ((m : Int) + (i : Int)), .int .i64 R.num, .string ⟨R.txt.toArray⟩] := by rw [← hw6]; exact (HY5.out.set_ 1 _).set_ 2 _
      have hg14 : (Value.slice (some ⟨g1, 0, none⟩) n C).ownBlock ≠ some g4 := fun e => by
        injection e with e
        have e' : g1 = g4 := e
        omega
      have HO6 := Lib.hid (show w6.ownsRow 0 24 5 (.slice (some ⟨g1, 0, none⟩) n C) n (rowCells ts) by rw [← hw6]; exact own_far (own_far HO5.out hg14) hg14)
      have HB6 := Lib.hid (show Below w.heap.size w w6 by rw [← hw6]; exact set_below (set_below HB5.out _ _) _ _)
      rw [hw6]
      clear hw6 x1 y1 y2 z1 z2 hg14
      have x0 := hX6.cell 0
      have x1 := hX6.cell 1
      have x2 := hX6.cell 2
      have x3 := hX6.cell 3
      have x4 := hX6.cell 4
      have y0 := hY6.cell 0
      have y1 := hY6.cell 1
      have y2 := hY6.cell 2
      have y3 := hY6.cell 3
      have y4 := hY6.cell 4
      simp only [List.getElem?_toArray, List.getElem?_cons_zero, List.getElem?_cons_succ] at x0 x1 x2 x3 x4 y0 y1 y2 y3 y4
      clear hX6 hY6
      go_wp2_with fail
      go_roundw
      case rel => exact ⟨k + 1, i + m, by omega, by omega, by congr 1; omega, by go_num, HCN.out, HO6.out, HB6.out⟩
      case measure => simp [intOf]; omega
    · have hd : ts.drop k = [] := List.drop_eq_nil_of_le (by rw [HN.out]; omega)
      rw [hd] at hc
      have he := chain_end (by rw [HSL.out]; exact hp) hc
      have hsk := skip_is s p hp
      rw [he, HSL.out] at hsk
      have HSK := Lib.hid hsk
      clear hd hc he hsk
      go_wp2_with (go_at_call 16; refine (skip_rc s _ _ _ (by omega) HSK.out).mono ?_; rintro e w' ⟨rfl, rfl⟩)
      refine (lives_ok _ HMr.out).mono ?_
      rintro e w2 ⟨rfl, hb2⟩
      go_wp2_with fail
      go_ret
      exact ⟨rfl, HB.out.trans (hb2.mono hbs)⟩

theorem apart_out (s : ByteArray) (w : World) (hm : MaxLenAt w) (hs : 1500 < s.size) :
    Calls Tryd.prog 5 #[.string s] w fun e w' => e = .returned (.bool true) ∧ Below w.heap.size w w' := by
  have hs' : (1500 : Int) < (s.size : Int) := by omega
  have HM := Lib.hid hm
  clear hm
  go_enter Tryd.func5, Tryd.ntmps5
  go_wp2_with fail
  refine (lives_ok _ HM.out).mono ?_
  rintro e w3 ⟨rfl, hb3⟩
  go_wp2_with fail
  go_ret
  exact ⟨rfl, hb3⟩

theorem lexApartWalk (s : ByteArray) (w : World) (hm : MaxLenAt w) :
    Calls Tryd.prog 5 #[.string s] w fun e w' => e = .returned (.bool true) ∧ Below w.heap.size w w' := by
  by_cases h : 1500 < s.size
  · exact apart_out s w hm h
  · have hsl : s.data.toList.length = s.size := by simp
    have h1 : uptoI s.data.toList 0 1048576 = uptoN 1048576 s.data.toList 0 := by unfold uptoI; rw [if_neg (by omega)]; rfl
    by_cases he : (uptoN 1048576 s.data.toList 0).2.2 = 0
    · have hc := chain_of 1048576 s.data.toList 0 (by omega) (by omega) he
      have hp := upto_zero_place 1048576 s.data.toList 0 he
      have hl := upto_len 1048576 s.data.toList 0 (by omega)
      exact apart_good s (uptoN 1048576 s.data.toList 0).1 w hm (by omega) (by omega) hc fun W hW => all_any s _ W (by omega) hW (h1.trans (by rw [← hp]))
    · obtain ⟨e1, p, e2, e3, e4⟩ := upto_err 1048576 s.data.toList 0 (by omega) he
      exact apart_bad s p (uptoN 1048576 s.data.toList 0).2.2 w hm (by omega) he (by omega) e4 fun W hW => all_any s _ W (by omega) hW (h1.trans (by rw [← e1, ← e2]))
end Go.Proofs.YtbmiogoigjdceaaDoor
