/-
  Lemmas and walks, joined: LexUr, LexAa.
-/
import Derived.Test.YtbmiogoigjdceaaDoorQ17
import Derived.Test.YtbmiogoigjdceaaDoorQ11
import Derived.Deep.Cut
import Derived.Deep.QuietTactic
import Derived.BigQuiet
import Derived.Test.YtbmiogoigjdceaaDoorQ18
namespace Go.Proofs.YtbmiogoigjdceaaDoor
open Go.RowKit Oct Fix Lex

def lenM (v : Value) : Nat := match v with | .slice _ n _ => n | _ => 0
theorem nextR_at (s : ByteArray) (p i : Nat) (R : TR) (w : World) (hs : s.size ≤ 100000) (hp : p ≤ s.size) (hi : nextI s.data.toList p = i) (hR : nextR s.data.toList p = R) :
    Calls Tryd.prog 10 #[.string s, .int .i64 (p : Int)] w fun e w' => e = .returned (.tuple #[.agg #[.int .i64 R.kind, .int .i64 (tA i R), .int .i64 (tT i R), .int .i64 R.num, .string (tS R)], .int .i64 R.err]) ∧ Below w.heap.size w w' := by
  have h := nextR_any s (p : Int) w hs
  rw [nxI_at, nxR_at (by simpa using hp), hi, hR] at h
  exact h
theorem skip_rc (s : ByteArray) (a r : Int) (w : World) (hs : s.size ≤ 4000000000) (h : skipS s.data.toList a = r) :
    Calls Tryd.prog 16 #[.string s, .int .i64 a] w fun e w' => e = .returned (.int .i64 r) ∧ w = w' := h ▸ skip_r s a w hs

theorem uptoR_bounds (s : ByteArray) (a most : Int) (w : World) (h : a < 0 ∨ (s.size : Int) < a) :
    Calls Tryd.prog 14 #[.string s, .int .i64 a, .int .i64 most] w (UptoEnd ([], 0, 1) w) := by
  rcases h with h | h
  · go_enter Tryd.func14, Tryd.ntmps14
    go_wp2_with fail
    exact bodyPost_ret (v := .tuple #[.slice none 0 0, .agg #[.int .i64 0, .int .i64 1]]) (by simp [results, Tryd.results14, go_sem]) rfl (upto_none rfl (flt_below _ _ _))
  · have h' : ¬ a < 0 := by omega
    go_enter Tryd.func14, Tryd.ntmps14
    go_wp2_with fail
    exact bodyPost_ret (v := .tuple #[.slice none 0 0, .agg #[.int .i64 0, .int .i64 1]]) (by simp [results, Tryd.results14, go_sem]) rfl (upto_none rfl (flt_below _ _ _))

set_option maxRecDepth 100000 in
set_option maxHeartbeats 8000000 in
theorem uptoR_in (s : ByteArray) (a : Nat) (most : Int) (r : Up) (w : World) (hs : s.size ≤ 100000) (ha : a ≤ s.size) (hr : uptoN most.toNat s.data.toList a = r) :
    Calls Tryd.prog 14 #[.string s, .int .i64 (a : Int), .int .i64 most] w (UptoEnd r w) := by
  obtain ⟨it, hi, hz0, hz1, hz2⟩ := info_parts infoTok
  have hsl : s.data.toList.length = s.size := by simp
  have HSL := Lib.hid hsl
  have HRR := Lib.hid hr
  have a0 : ¬ (a : Int) < 0 := by omega
  have a1 : ¬ (s.size : Int) < (a : Int) := by omega
  clear hsl hr
  go_enter Tryd.func14, Tryd.ntmps14
  go_wp2_with fail
  go_loopw [1, 8] (fun pos v wr => ∃ (j p : Nat) (out : List Tk) (A : Option Addr) (C : Nat), pos = .int .i64 (p : Int) ∧ v = .slice A j C ∧ UpAt most.toNat s.data.toList a j out p ∧ p ≤ s.size ∧ j ≤ s.size ∧ wr.ownsRow (w.heap.size + 1) 24 5 (.slice A j C) j (rowCells out) ∧ Below (w.heap.size + 1) (w.alloc (.cells #[.int .i64 0, .int .i64 0] 31)) wr) (fun _ v _ => (most - (lenM v : Int)).toNat)
  case atStart => exact ⟨0, a, [], none, 0, rfl, rfl, UpAt.zero (by rw [HSL.out]; exact ha), ha, by omega, World.ownsRow_nil _ _ _ _, Below.refl _ _⟩
  case round =>
    obtain ⟨j, p, out, A, C, rfl, rfl, hu, hps, hjs, hown, hb⟩ := hrel
    have hbs : w.heap.size + 1 ≤ wr.heap.size := by have := hb.size; simpa using this
    have HU := Lib.hid hu
    have HO := Lib.hid hown
    have HB := Lib.hid hb
    have hD : Blk wr w.heap.size 31 #[.int .i64 0, .int .i64 0] := (Blk.new w 31 _).below hb (by omega)
    have HD := Lib.hid hD
    clear hu hown hb hD
    by_cases hlt : (j : Int) < most
    · have hlt2 : j < most.toNat := by omega
      obtain ⟨i, hi2⟩ : ∃ i, nextI s.data.toList p = i := ⟨_, rfl⟩
      obtain ⟨R, hR⟩ : ∃ R, nextR s.data.toList p = R := ⟨_, rfl⟩
      have hni := next_le s.data.toList p (by rw [HSL.out]; exact hps)
      rw [hi2, HSL.out] at hni
      have hcall := fun W : World => nextR_at s p i R W hs hps hi2 hR
      have HC := Lib.hid hcall
      have HI := Lib.hid hi2
      have HR := Lib.hid hR
      clear hcall hi2 hR
      go_wp2_with fail
      refine (HC.out _).mono ?_
      rintro e w2 ⟨rfl, hb2⟩
      have hbs2 := hb2.size
      have HO2 := Lib.hid (own_below HO.out hb2 (Nat.le_refl _))
      have HD2 := Lib.hid (HD.out.below hb2 (by omega))
      have HB2 := Lib.hid (HB.out.trans (hb2.mono hbs))
      clear hb2
      go_upto_region 6 with (fail)
      obtain ⟨w3, hw3⟩ : ∃ w3, w2.alloc (.cells #[.int .i64 R.kind, .int .i64 (tA i R), .int .i64 (tT i R), .int .i64 R.num, .string (tS R)] 24) = w3 := ⟨_, rfl⟩
      have hX : Blk w3 w2.heap.size 24 #[.int .i64 R.kind, .int .i64 (tA i R), .int .i64 (tT i R), .int .i64 R.num, .string (tS R)] := by rw [← hw3]; exact Blk.new _ _ _
      have HD3 := Lib.hid (show Blk w3 w.heap.size 31 #[.int .i64 0, .int .i64 0] by rw [← hw3]; exact HD2.out.alloc _)
      have HO3 := Lib.hid (show w3.ownsRow (w.heap.size + 1) 24 5 (.slice A j C) j (rowCells out) by rw [← hw3]; exact HO2.out.alloc _)
      have HB3 := Lib.hid (show Below (w.heap.size + 1) (w.alloc (.cells #[.int .i64 0, .int .i64 0] 31)) w3 by rw [← hw3]; exact HB2.out.alloc (by omega) _)
      have hg3 : w2.heap.size < w3.heap.size := hX.lt
      have HLTo := Lib.hid HO2.out.lt
      rw [hw3]
      clear hw3
      obtain ⟨g2, hg2⟩ : ∃ g2, w2.heap.size = g2 := ⟨_, rfl⟩
      rw [hg2] at hX hg3 hbs2
      simp only [hg2]
      rw [hg2] at HLTo
      clear hg2
      have hgw : w.heap.size + 1 ≤ g2 := by omega
      by_cases he : R.err = 0
      · have bc : (R.err != 0) = false := by simp [he]
        have x0 := hX.cell 0
        have x1 := hX.cell 1
        have x2 := hX.cell 2
        have x3 := hX.cell 3
        have x4 := hX.cell 4
        simp only [List.getElem?_toArray, List.getElem?_cons_zero, List.getElem?_cons_succ] at x0 x1 x2 x3 x4
        by_cases hk : R.kind = 0
        · have bk : (R.kind == 0) = true := by simp [hk]
          have hend := HU.out.done hlt2 (by rw [HR.out]; exact he) (by rw [HR.out]; exact hk)
          have HE := Lib.hid (HRR.out.symm.trans hend)
          have hol := HU.out.2.1
          have HOL := Lib.hid hol
          have hD3 := HD3.out
          have d0 := hD3.cell 0
          have d1 := hD3.cell 1
          have f0 := hD3.frozen 0
          have f1 := hD3.frozen 1
          simp only [List.getElem?_toArray, List.getElem?_cons_zero, List.getElem?_cons_succ] at d0 d1
          clear he hk hend hX hD3 hol
          go_wp2_with fail
          exact bodyPost_ret (v := .tuple #[.slice A j C, .agg #[.int .i64 0, .int .i64 0]]) (by simp [results, Tryd.results14, go_sem, d0, d1]) rfl (upto_some HE.out HOL.out.symm (own_set (own_set HO3.out (by omega) _ _) (by omega) _ _) (set_below (set_below (tok_below HB3.out) _ _) _ _))
        · have bk : (R.kind == 0) = false := by simpa using hk
          have N := HU.out.more hlt2 (by rw [HR.out]; exact he) (by rw [HR.out]; exact hk)
          obtain ⟨n1, n2, n3⟩ := next_some (l := s.data.toList) (a := p) (by rw [HSL.out]; exact hps) (by rw [HR.out]; exact he) (by rw [HR.out]; exact hk)
          rw [HI.out, HR.out] at N
          rw [HI.out, HSL.out] at n1
          rw [HI.out, HR.out, HSL.out] at n3
          rw [HR.out] at n2
          have eA : tA i R = (i : Int) := by unfold tA; rw [if_pos he]
          have eT : tT i R = ((i + R.len : Nat) : Int) := by unfold tT; rw [if_pos he]
          have hNl := N.2.2.1
          have NN := Lib.hid N
          have ET := Lib.hid eT
          have EA := Lib.hid eA
          have HXk := Lib.hid hX
          have hjs2 : j + 1 ≤ s.size := by have := N.2.2.2; rw [HSL.out] at this; omega
          clear he hk hX N eA eT
          go_upto_region 9 with (fail)
          go_wp2_with (first | (at_builtin; refine wpList_append_own _ rfl _ _ 29 rfl (w.heap.size + 1) 24 it (.agg #[.int .i64 0, .int .i64 0, .int .i64 0, .int .i64 0, .string ⟨#[]⟩]) 5 48 Tryd.underlying29 hi hz0 hz1 hz2 rfl (by decide) _ _ _ rfl (HO3.out.alloc _) ⟨w3.heap.size, 0, none⟩ 1 1 [.int .i64 R.kind, .int .i64 (tA i R), .int .i64 (tT i R), .int .i64 R.num, .string (tS R)] rfl rfl (World.news_of_block (heap_alloc_new w3 _)) (by simp [Value.oneCell']) (by unfold maxLen; omega) (by omega) (by simp; omega) ?_))
          intro v4 w4 hown4 hgrow4
          intros
          obtain ⟨A4, C4, rfl⟩ := own_form hown4
          have hX4 : Blk w4 g2 24 #[.int .i64 R.kind, .int .i64 (tA i R), .int .i64 (tT i R), .int .i64 R.num, .string (tS R)] :=
            (HXk.out.alloc _).grown hgrow4 (fun e => by have := (HLTo.out _ e.symm).2; omega)
          have z2 := hX4.cell 2
          simp only [List.getElem?_toArray, List.getElem?_cons_zero, List.getElem?_cons_succ] at z2
          have hb4 := (HB3.out.alloc (by omega) (.cells #[.int .i64 R.kind, .int .i64 (tA i R), .int .i64 (tT i R), .int .i64 R.num, .string (tS R)] 24)).grown hgrow4 (by simp; omega) (fun g h => (HO3.out.lt g h).1)
          have HB4 := Lib.hid hb4
          have HO4 := Lib.hid hown4
          clear x0 x1 x2 x3 x4 hX4 hgrow4 hown4 hb4
          go_wp2_with fail
          go_roundw
          case rel => exact ⟨j + 1, i + R.len, out ++ [tkOf i R], A4, C4, by rw [ET.out], rfl, NN.out, by omega, hjs2, by rw [rowCells_snoc]; unfold tkCells tkOf; rw [← EA.out, ← ET.out]; exact HO4.out, HB4.out⟩
          case measure => simp [lenM]; omega
      · have bc : (R.err != 0) = true := by simpa using he
        have hend := HU.out.bad hlt2 (by rw [HR.out]; exact he)
        rw [HI.out, HR.out] at hend
        have HE := Lib.hid (HRR.out.symm.trans hend)
        have hsk : skipS s.data.toList (p : Int) = (i : Int) := by
          obtain ⟨k1, _⟩ := skip_next s (p : Int) (by omega) (by omega)
          rw [k1, nxI_at, HI.out]
        have HSK := Lib.hid hsk
        have hD3 := HD3.out
        have d0 := hD3.cell 0
        have d1 := hD3.cell 1
        have f0 := hD3.frozen 0
        have f1 := hD3.frozen 1
        simp only [List.getElem?_toArray, List.getElem?_cons_zero, List.getElem?_cons_succ] at d0 d1
        clear he hend hsk hX hD3
        go_upto_region 7 with (fail)
        go_wp2_with (go_at_call 16; refine (skip_rc _ _ _ _ (by omega) HSK.out).mono ?_; rintro e w' ⟨rfl, rfl⟩)
        exact bodyPost_ret (v := .tuple #[.slice none 0 0, .agg #[.int .i64 (i : Int), .int .i64 R.err]]) (by simp [results, Tryd.results14, go_sem, d0, d1]) rfl (upto_none HE.out (set_below (set_below (tok_below HB3.out) _ _) _ _))
    · have hend := HU.out.full (by omega)
      have HE := Lib.hid (HRR.out.symm.trans hend)
      have HOL := Lib.hid HU.out.2.1
      have hD3 := HD.out
      have d0 := hD3.cell 0
      have d1 := hD3.cell 1
      have f0 := hD3.frozen 0
      have f1 := hD3.frozen 1
      simp only [List.getElem?_toArray, List.getElem?_cons_zero, List.getElem?_cons_succ] at d0 d1
      clear hend hD3
      go_wp2_with fail
      exact bodyPost_ret (v := .tuple #[.slice A j C, .agg #[.int .i64 0, .int .i64 0]]) (by simp [results, Tryd.results14, go_sem, d0, d1]) rfl (upto_some HE.out HOL.out.symm (own_set (own_set HO.out (by omega) _ _) (by omega) _ _) (set_below (set_below (tok_below HB.out) _ _) _ _))

theorem uptoR_any (s : ByteArray) (a most : Int) (r : Up) (w : World) (hs : s.size ≤ 100000) (hr : uptoI s.data.toList a most = r) :
    Calls Tryd.prog 14 #[.string s, .int .i64 a, .int .i64 most] w (UptoEnd r w) := by
  have hsl : s.data.toList.length = s.size := by simp
  unfold uptoI at hr
  by_cases h : a < 0 ∨ (s.size : Int) < a
  · rw [if_pos (by rw [hsl]; exact h)] at hr
    subst hr
    exact uptoR_bounds s a most w h
  · rw [if_neg (by rw [hsl]; exact h)] at hr
    obtain ⟨n, rfl⟩ : ∃ n : Nat, a = (n : Int) := ⟨a.toNat, by omega⟩
    exact uptoR_in s n most r w hs (by omega) (by rw [Int.toNat_natCast] at hr; exact hr)

theorem upto_stable (n : Nat) : ∀ (l : List UInt8) (a : Nat), a ≤ l.length → l.length < n + a → uptoN (n + 1) l a = uptoN n l a := by
  induction n with
  | zero => intro l a h h2; omega
  | succ n ih =>
    intro l a h h2
    by_cases he : (nextR l a).err = 0
    · by_cases hk : (nextR l a).kind = 0
      · rw [upto_end he hk, upto_end he hk]
      · rw [upto_more he hk, upto_more he hk]
        obtain ⟨n1, n2, n3⟩ := next_some h he hk
        have n4 := (next_le l a h).1
        rw [ih l _ n3 (by omega)]
    · rw [upto_bad he, upto_bad he]

set_option maxRecDepth 100000 in
set_option maxHeartbeats 4000000 in
theorem allR_any (s : ByteArray) (r : Up) (w : World) (hs : s.size ≤ 100000) (hr : uptoI s.data.toList 0 1048576 = r) :
    Calls Tryd.prog 12 #[.string s] w (UptoEnd r w) := by
  have hsl : s.data.toList.length = s.size := by simp
  have h1 : uptoI s.data.toList 0 1048576 = uptoN 1048576 s.data.toList 0 := by unfold uptoI; rw [if_neg (by omega)]; rfl
  have h2 : uptoI s.data.toList 0 1048577 = uptoN 1048577 s.data.toList 0 := by unfold uptoI; rw [if_neg (by omega)]; rfl
  have h3 : uptoI s.data.toList 0 1048577 = r := by rw [h2, upto_stable 1048576 _ 0 (by omega) (by omega), ← h1]; exact hr
  have hlen : r.1.length ≤ 100000 := by
    rw [← hr, h1]
    have := upto_len 1048576 s.data.toList 0 (Nat.zero_le _)
    omega
  have hl2 : ¬ 1048576 < (r.1.length : Int) := by omega
  have hcall := fun W => uptoR_any s 0 1048577 r W hs h3
  have HC := Lib.hid hcall
  have be : (r.2.2 == 0) = true ∨ (r.2.2 == 0) = false := by cases (r.2.2 == 0) <;> simp
  clear hsl hr hcall h1 h2 h3
  rcases be with be | be
  all_goals
    go_enter Tryd.func12, Tryd.ntmps12
    go_wp2_with fail
    refine (HC.out _).mono ?_
    rintro e w2 ⟨A, C, rfl, hown, hb⟩
    simp at hown hb
    go_upto_region 2 with (fail)
    obtain ⟨w3, hw3⟩ : ∃ w3, w2.alloc (.cells #[.int .i64 r.2.1, .int .i64 r.2.2] 31) = w3 := ⟨_, rfl⟩
    have hX : Blk w3 w2.heap.size 31 #[.int .i64 r.2.1, .int .i64 r.2.2] := by rw [← hw3]; exact Blk.new _ _ _
    have hD : Blk w3 w.heap.size 31 #[.int .i64 0, .int .i64 0] := by rw [← hw3]; exact ((Blk.new w 31 _).below hb (by omega)).alloc _
    have HO3 := Lib.hid (show w3.ownsRow (w.heap.size + 1) 24 5 (.slice A r.1.length C) r.1.length (rowCells r.1) by rw [← hw3]; exact hown.alloc _)
    have hg0 := hb.size
    have HB3 := Lib.hid (show Below w.heap.size w w3 by rw [← hw3]; exact (tok_below hb).alloc (by simp at hg0; omega) _)
    have hne : ¬ w.heap.size = w2.heap.size := by simp at hg0; omega
    have hne2 : ¬ w2.heap.size = w.heap.size := by omega
    rw [hw3]
    clear hw3 hb hown hg0
    obtain ⟨g2, hg2⟩ : ∃ g2, w2.heap.size = g2 := ⟨_, rfl⟩
    rw [hg2] at hX hne hne2
    simp only [hg2]
    clear hg2
    have x0 := hX.cell 0
    have x1 := hX.cell 1
    have d0 := hD.cell 0
    have d1 := hD.cell 1
    have f0 := hD.frozen 0
    have f1 := hD.frozen 1
    simp only [List.getElem?_toArray, List.getElem?_cons_zero, List.getElem?_cons_succ] at x0 x1 d0 d1
    clear hX hD
    go_wp2_with fail
    go_region
    all_goals
      go_wp2_with fail
      exact bodyPost_ret (v := .tuple #[.slice A r.1.length C, .agg #[.int .i64 r.2.1, .int .i64 r.2.2]]) (by simp [results, Tryd.results12, go_sem, d0, d1]) rfl ⟨A, C, rfl, (own_set (own_set HO3.out (by omega) _ _) (by omega) _ _).mono (by omega), (set_below (set_below HB3.out _ _) _ _).drew⟩

theorem row_at (l : List Tk) (k m : Nat) (hk : k < l.length) (hm : m < 5) : (rowCells l)[k * 5 + m]? = (tkCells l[k])[m]? := by
  induction l generalizing k with
  | nil => cases hk
  | cons t l ih =>
    have e : rowCells (t :: l) = tkCells t ++ rowCells l := by unfold rowCells; simp
    have ht : (tkCells t).length = 5 := rfl
    rw [e]
    cases k with
    | zero => rw [Nat.zero_mul, Nat.zero_add, List.getElem?_append_left (by omega)]; rfl
    | succ k =>
      rw [List.getElem?_append_right (by omega), ht, show (k + 1) * 5 + m - 5 = k * 5 + m from by omega]
      exact ih k (by simpa using hk)

/-- Two rows of the same tokens. -/
def SameEnd (w : World) (e : Ending) (w' : World) : Prop := e = .returned (.bool true) ∧ ∃ m, w' = w.drewN m
set_option maxRecDepth 100000 in
set_option maxHeartbeats 8000000 in
theorem same_yes (l : List Tk) (A B : Option Addr) (C D b1 b2 : Nat) (w : World) (hl : l.length ≤ 100000) (h1 : w.ownsRow b1 24 5 (.slice A l.length C) l.length (rowCells l)) (h2 : w.ownsRow b2 24 5 (.slice B l.length D) l.length (rowCells l)) :
    Calls Tryd.prog 15 #[.slice A l.length C, .slice B l.length D] w (SameEnd w) := by
  have H1 := Lib.hid h1
  have H2 := Lib.hid h2
  clear h1 h2
  obtain ⟨n, hn⟩ : ∃ n, l.length = n := ⟨_, rfl⟩
  have HN := Lib.hid hn
  rw [hn] at H1 H2 hl ⊢
  clear hn
  go_enter Tryd.func15, Tryd.ntmps15
  go_wp2_with fail
  go_loopw [5] (fun i wr => ∃ k m : Nat, k ≤ n ∧ i = .int .i64 (k : Int) ∧ wr = w.drewN m) (fun i _ => n - (intOf i).toNat)
  case atStart => exact ⟨0, 0, by omega, rfl, rfl⟩
  case round =>
    obtain ⟨k, m, hk, rfl, rfl⟩ := hrel
    by_cases hlt : k < n
    · have hkl : k < l.length := by rw [HN.out]; exact hlt
      obtain ⟨g1, c1, e1, _⟩ := H1.out.form (by omega)
      obtain ⟨g2, c2, e2, _⟩ := H2.out.form (by omega)
      injection e1 with e1 _ e3
      injection e2 with e2 _ e4
      subst e1 e2 e3 e4
      have x := fun j (hj : j < 5) => (H1.out.cellAt (k * 5 + j) (by omega)).trans (row_at l k j hkl hj)
      have y := fun j (hj : j < 5) => (H2.out.cellAt (k * 5 + j) (by omega)).trans (row_at l k j hkl hj)
      have x0 := x 0 (by omega)
      have x1 := x 1 (by omega)
      have x2 := x 2 (by omega)
      have x3 := x 3 (by omega)
      have x4 := x 4 (by omega)
      have y0 := y 0 (by omega)
      have y1 := y 1 (by omega)
      have y2 := y 2 (by omega)
      have y3 := y 3 (by omega)
      have y4 := y 4 (by omega)
      unfold tkCells at x0 x1 x2 x3 x4 y0 y1 y2 y3 y4
      simp only [List.getElem?_cons_zero, List.getElem?_cons_succ, Nat.add_zero] at x0 x1 x2 x3 x4 y0 y1 y2 y3 y4
      clear x y
      have i0 : (0 : Int) ≤ (k : Int) := by omega
      have i1 : (k : Int) < (n : Int) := by omega
      go_wp2_with fail
      go_quiet (fail)
      clear x0 x1 x2 x3 x4 y0 y1 y2 y3 y4
      go_wp2_with fail
      go_roundw
      case rel => exact ⟨k + 1, m + nq, by omega, by go_num, rfl⟩
      case measure => simp [intOf]; omega
    · go_wp2_with fail
      go_ret
      exact ⟨rfl, m, rfl⟩
end Go.Proofs.YtbmiogoigjdceaaDoor
namespace Go.Proofs.YtbmiogoigjdceaaDoor
open Go.RowKit Oct Fix Lex

set_option maxRecDepth 100000 in
set_option maxHeartbeats 16000000 in
theorem lexAll_in (s : ByteArray) (a most : Int) (w : World) (hm : MaxLenAt w) (hs : s.size ≤ 2000) :
    Calls Tryd.prog 4 #[.string s, .int .i64 a, .int .i64 most] w fun e w' => e = .returned (.bool true) ∧ Below w.heap.size w w' := by
  have hs' : ¬ (2000 : Int) < (s.size : Int) := by omega
  have HM0 := Lib.hid hm
  have HB0 := Lib.hid (Below.refl w.heap.size w)
  obtain ⟨r, hr⟩ : ∃ r, uptoI s.data.toList 0 1048576 = r := ⟨_, rfl⟩
  obtain ⟨q, hq⟩ : ∃ q, uptoI s.data.toList a most = q := ⟨_, rfl⟩
  have hsl : s.data.toList.length = s.size := by simp
  have len : ∀ (n : Nat) (b : Nat), b ≤ s.size → (uptoN n s.data.toList b).1.length ≤ 100000 := fun n b hb => by
    have := upto_len n s.data.toList b (by omega)
    omega
  have hrl : r.1.length ≤ 100000 := by
    rw [← hr]
    unfold uptoI
    split
    · exact Nat.zero_le _
    · exact len _ _ (by omega)
  have hql : q.1.length ≤ 100000 := by
    rw [← hq]
    unfold uptoI
    split
    · exact Nat.zero_le _
    · exact len _ _ (by omega)
  have C1 := Lib.hid (fun W hW => all_any s r W (by omega) hW hr)
  have C2 := Lib.hid (fun W => allR_any s r W (by omega) hr)
  have C3 := Lib.hid (fun W hW => upto_any s a most q W (by omega) hW hq)
  have C4 := Lib.hid (fun W => uptoR_any s a most q W (by omega) hq)
  clear hm hr hq len hsl
  go_enter Tryd.func4, Tryd.ntmps4
  go_wp2_with fail
  refine (C1.out _ HM0.out).mono ?_
  rintro e v1 ⟨A1, D1, rfl, hown, hb⟩
  go_upto_region 4 with (fail)
  obtain ⟨w1, hw1⟩ : ∃ w1, v1.alloc (.cells #[.int .i64 r.2.1, .int .i64 r.2.2] 31) = w1 := ⟨_, rfl⟩
  have HF1_1 := Lib.hid (show Blk w1 v1.heap.size 31 #[.int .i64 r.2.1, .int .i64 r.2.2] by rw [← hw1]; exact Blk.new _ _ _)
  have HO1_1 := Lib.hid (show w1.ownsRow 0 24 5 (.slice A1 r.1.length D1) r.1.length (rowCells r.1) by rw [← hw1]; exact (hown.mono (Nat.zero_le _)).alloc _)
  have HB1 := Lib.hid (show Below w.heap.size w w1 by rw [← hw1]; exact (HB0.out.trans (hb.mono HB0.out.size)).alloc (Nat.le_trans HB0.out.size hb.size) _)
  have HM1 : Hid (MaxLenAt w1) := Lib.hid (HM0.out.upto HB1.out (Nat.le_refl _))
  rw [hw1]
  clear hw1 hb hown
  obtain ⟨b1, hb1⟩ : ∃ b1, v1.heap.size = b1 := ⟨_, rfl⟩
  rw [hb1] at HF1_1
  simp only [hb1]
  clear hb1
  go_wp2_with fail
  refine (C2.out _).mono ?_
  rintro e v2 ⟨A2, D2, rfl, hown, hb⟩
  go_upto_region 5 with (fail)
  obtain ⟨w2, hw2⟩ : ∃ w2, v2.alloc (.cells #[.int .i64 r.2.1, .int .i64 r.2.2] 31) = w2 := ⟨_, rfl⟩
  have HF2_2 := Lib.hid (show Blk w2 v2.heap.size 31 #[.int .i64 r.2.1, .int .i64 r.2.2] by rw [← hw2]; exact Blk.new _ _ _)
  have HO2_2 := Lib.hid (show w2.ownsRow 0 24 5 (.slice A2 r.1.length D2) r.1.length (rowCells r.1) by rw [← hw2]; exact (hown.mono (Nat.zero_le _)).alloc _)
  have HB2 := Lib.hid (show Below w.heap.size w w2 by rw [← hw2]; exact (HB1.out.trans (hb.mono HB1.out.size)).alloc (Nat.le_trans HB1.out.size hb.size) _)
  have HF1_2 := Lib.hid (show Blk w2 b1 31 #[.int .i64 r.2.1, .int .i64 r.2.2] by rw [← hw2]; exact (HF1_1.out.below hb HF1_1.out.lt).alloc _)
  have HO1_2 := Lib.hid (show w2.ownsRow 0 24 5 (.slice A1 r.1.length D1) r.1.length (rowCells r.1) by rw [← hw2]; exact (own_below HO1_1.out hb (Nat.le_refl _)).alloc _)
  have HM2 : Hid (MaxLenAt w2) := Lib.hid (HM0.out.upto HB2.out (Nat.le_refl _))
  rw [hw2]
  clear hw2 hb hown
  obtain ⟨b2, hb2⟩ : ∃ b2, v2.heap.size = b2 := ⟨_, rfl⟩
  rw [hb2] at HF2_2
  simp only [hb2]
  clear hb2
  go_wp2_with fail
  refine (C3.out _ HM2.out).mono ?_
  rintro e v3 ⟨A3, D3, rfl, hown, hb⟩
  go_upto_region 6 with (fail)
  obtain ⟨w3, hw3⟩ : ∃ w3, v3.alloc (.cells #[.int .i64 q.2.1, .int .i64 q.2.2] 31) = w3 := ⟨_, rfl⟩
  have HF3_3 := Lib.hid (show Blk w3 v3.heap.size 31 #[.int .i64 q.2.1, .int .i64 q.2.2] by rw [← hw3]; exact Blk.new _ _ _)
  have HO3_3 := Lib.hid (show w3.ownsRow 0 24 5 (.slice A3 q.1.length D3) q.1.length (rowCells q.1) by rw [← hw3]; exact (hown.mono (Nat.zero_le _)).alloc _)
  have HB3 := Lib.hid (show Below w.heap.size w w3 by rw [← hw3]; exact (HB2.out.trans (hb.mono HB2.out.size)).alloc (Nat.le_trans HB2.out.size hb.size) _)
  have HF1_3 := Lib.hid (show Blk w3 b1 31 #[.int .i64 r.2.1, .int .i64 r.2.2] by rw [← hw3]; exact (HF1_2.out.below hb HF1_2.out.lt).alloc _)
  have HO1_3 := Lib.hid (show w3.ownsRow 0 24 5 (.slice A1 r.1.length D1) r.1.length (rowCells r.1) by rw [← hw3]; exact (own_below HO1_2.out hb (Nat.le_refl _)).alloc _)
  have HF2_3 := Lib.hid (show Blk w3 b2 31 #[.int .i64 r.2.1, .int .i64 r.2.2] by rw [← hw3]; exact (HF2_2.out.below hb HF2_2.out.lt).alloc _)
  have HO2_3 := Lib.hid (show w3.ownsRow 0 24 5 (.slice A2 r.1.length D2) r.1.length (rowCells r.1) by rw [← hw3]; exact (own_below HO2_2.out hb (Nat.le_refl _)).alloc _)
  have HM3 : Hid (MaxLenAt w3) := Lib.hid (HM0.out.upto HB3.out (Nat.le_refl _))
  rw [hw3]
  clear hw3 hb hown
  obtain ⟨b3, hb3⟩ : ∃ b3, v3.heap.size = b3 := ⟨_, rfl⟩
  rw [hb3] at HF3_3
  simp only [hb3]
  clear hb3
  go_wp2_with fail
  refine (C4.out _).mono ?_
  rintro e v4 ⟨A4, D4, rfl, hown, hb⟩
  go_upto_region 7 with (fail)
  obtain ⟨w4, hw4⟩ : ∃ w4, v4.alloc (.cells #[.int .i64 q.2.1, .int .i64 q.2.2] 31) = w4 := ⟨_, rfl⟩
  have HF4_4 := Lib.hid (show Blk w4 v4.heap.size 31 #[.int .i64 q.2.1, .int .i64 q.2.2] by rw [← hw4]; exact Blk.new _ _ _)
  have HO4_4 := Lib.hid (show w4.ownsRow 0 24 5 (.slice A4 q.1.length D4) q.1.length (rowCells q.1) by rw [← hw4]; exact (hown.mono (Nat.zero_le _)).alloc _)
  have HB4 := Lib.hid (show Below w.heap.size w w4 by rw [← hw4]; exact (HB3.out.trans (hb.mono HB3.out.size)).alloc (Nat.le_trans HB3.out.size hb.size) _)
  have HF1_4 := Lib.hid (show Blk w4 b1 31 #[.int .i64 r.2.1, .int .i64 r.2.2] by rw [← hw4]; exact (HF1_3.out.below hb HF1_3.out.lt).alloc _)
  have HO1_4 := Lib.hid (show w4.ownsRow 0 24 5 (.slice A1 r.1.length D1) r.1.length (rowCells r.1) by rw [← hw4]; exact (own_below HO1_3.out hb (Nat.le_refl _)).alloc _)
  have HF2_4 := Lib.hid (show Blk w4 b2 31 #[.int .i64 r.2.1, .int .i64 r.2.2] by rw [← hw4]; exact (HF2_3.out.below hb HF2_3.out.lt).alloc _)
  have HO2_4 := Lib.hid (show w4.ownsRow 0 24 5 (.slice A2 r.1.length D2) r.1.length (rowCells r.1) by rw [← hw4]; exact (own_below HO2_3.out hb (Nat.le_refl _)).alloc _)
  have HF3_4 := Lib.hid (show Blk w4 b3 31 #[.int .i64 q.2.1, .int .i64 q.2.2] by rw [← hw4]; exact (HF3_3.out.below hb HF3_3.out.lt).alloc _)
  have HO3_4 := Lib.hid (show w4.ownsRow 0 24 5 (.slice A3 q.1.length D3) q.1.length (rowCells q.1) by rw [← hw4]; exact (own_below HO3_3.out hb (Nat.le_refl _)).alloc _)
  have HM4 : Hid (MaxLenAt w4) := Lib.hid (HM0.out.upto HB4.out (Nat.le_refl _))
  rw [hw4]
  clear hw4 hb hown
  obtain ⟨b4, hb4⟩ : ∃ b4, v4.heap.size = b4 := ⟨_, rfl⟩
  rw [hb4] at HF4_4
  simp only [hb4]
  clear hb4
  go_wp2_with fail
  refine (same_yes r.1 A1 A2 D1 D2 0 0 _ hrl HO1_4.out HO2_4.out).mono ?_
  rintro e w5 ⟨rfl, m5, rfl⟩
  have h1 := HF1_4.out
  have x10 := h1.cell 0
  have x11 := h1.cell 1
  have h2 := HF2_4.out
  have x20 := h2.cell 0
  have x21 := h2.cell 1
  have h3 := HF3_4.out
  have x30 := h3.cell 0
  have x31 := h3.cell 1
  have h4 := HF4_4.out
  have x40 := h4.cell 0
  have x41 := h4.cell 1
  simp only [List.getElem?_toArray, List.getElem?_cons_zero, List.getElem?_cons_succ] at x10 x11 x20 x21 x30 x31 x40 x41
  clear h1 h2 h3 h4
  go_wp2_with fail
  refine (same_yes q.1 A3 A4 D3 D4 0 0 (w4.drewN m5) hql (show (w4.drewN m5).ownsRow _ _ _ _ _ _ from HO3_4.out) (show (w4.drewN m5).ownsRow _ _ _ _ _ _ from HO4_4.out)).mono ?_
  rintro e w6 ⟨rfl, m6, rfl⟩
  go_wp2_with fail
  refine (lives_ok _ (show MaxLenAt (w4.drewN _) from HM4.out)).mono ?_
  rintro e w7 ⟨rfl, hb7⟩
  go_wp2_with fail
  go_ret
  exact ⟨rfl, HB4.out.trans ((below_drewN (Below.refl _ _) _).trans (hb7.mono (by simpa using HB4.out.size)))⟩

theorem lexAll_out (s : ByteArray) (a most : Int) (w : World) (hm : MaxLenAt w) (hs : 2000 < s.size) :
    Calls Tryd.prog 4 #[.string s, .int .i64 a, .int .i64 most] w fun e w' => e = .returned (.bool true) ∧ Below w.heap.size w w' := by
  have hs' : (2000 : Int) < (s.size : Int) := by omega
  have HM := Lib.hid hm
  clear hm
  go_enter Tryd.func4, Tryd.ntmps4
  go_wp2_with fail
  refine (lives_ok _ HM.out).mono ?_
  rintro e w3 ⟨rfl, hb3⟩
  go_wp2_with fail
  go_ret
  exact ⟨rfl, hb3⟩

theorem lexAllWalk (s : ByteArray) (a most : Int) (w : World) (hm : MaxLenAt w) :
    Calls Tryd.prog 4 #[.string s, .int .i64 a, .int .i64 most] w fun e w' => e = .returned (.bool true) ∧ Below w.heap.size w w' := by
  by_cases h : 2000 < s.size
  · exact lexAll_out s a most w hm h
  · exact lexAll_in s a most w hm (by omega)
end Go.Proofs.YtbmiogoigjdceaaDoor
