/-
  code's New: the table of a code.
-/
import Derived.Test.YtbgechfmbogbpaaCodG
import Derived.Test.YtbgechfmbogbpaaCodMd
import Derived.Test.YtbgechfmbogbpaaCodH
namespace Go.Proofs.Ytbgechfmbogbpaa
open Go.RowKit Cod

set_option maxRecDepth 100000 in
set_option maxHeartbeats 4000000 in
theorem new_no (A : Option Addr) (cap : Nat) (l : List Int) (w : World) (h : IAt w A l) (hl : l.length ≤ 1000000) (x : Int) (hc : chkE l = x) (hx : x ≠ 0) :
    Calls Try.prog 11 #[.slice A l.length cap] w fun e w' => e = .returned (.tuple #[.pointer none, .int .i64 x]) ∧ Below w.heap.size w w' := by
  have HC := Lib.hid (codes_no A cap l w h hl x hc hx)
  have hx' : ¬ x = 0 := hx
  clear h hl hc hx
  go_enter Try.func11, Try.ntmps11
  go_wp2_with fail
  refine HC.out.mono ?_
  rintro e w1 ⟨rfl, hb⟩
  have HB := Lib.hid hb
  clear hb
  go_wp2_with fail
  go_ret2
  exact ⟨rfl, HB.out⟩

/-- The cells of a table. -/
def tb (lv cv sv : Value) (t : Nat → Int) (g : Int) : Array Value := #[lv, cv, sv, .int .i64 (t 0), .int .i64 (t 1), .int .i64 (t 2), .int .i64 (t 3), .int .i64 (t 4), .int .i64 (t 5), .int .i64 (t 6), .int .i64 (t 7), .int .i64 (t 8), .int .i64 (t 9), .int .i64 (t 10), .int .i64 (t 11), .int .i64 (t 12), .int .i64 (t 13), .int .i64 (t 14), .int .i64 (t 15), .int .i64 g]
theorem tb_tally (lv cv sv : Value) (t : Nat → Int) (g : Int) (k : Nat) (h : k < 16) : (tb lv cv sv t g)[3 + k]? = some (.int .i64 (t k)) := by
  have : k = 0 ∨ k = 1 ∨ k = 2 ∨ k = 3 ∨ k = 4 ∨ k = 5 ∨ k = 6 ∨ k = 7 ∨ k = 8 ∨ k = 9 ∨ k = 10 ∨ k = 11 ∨ k = 12 ∨ k = 13 ∨ k = 14 ∨ k = 15 := by omega
  rcases this with rfl | rfl | rfl | rfl | rfl | rfl | rfl | rfl | rfl | rfl | rfl | rfl | rfl | rfl | rfl | rfl <;> rfl
theorem tb_long (lv cv sv : Value) (t : Nat → Int) (g g' : Int) : (tb lv cv sv t g).setIfInBounds 19 (.int .i64 g') = tb lv cv sv t g' := rfl
theorem tb_signs (lv cv sv sv' : Value) (t : Nat → Int) (g : Int) : (tb lv cv sv t g).setIfInBounds 2 sv' = tb lv cv sv' t g := rfl
/-- A row of numbers in memory, in blocks below D. -/
def IBelow (D : Nat) (w : World) (A : Option Addr) (l : List Int) : Prop :=
  ∀ j (h : j < l.length), ∃ b off : Nat, A = some ⟨b, off, none⟩ ∧ b < D ∧ w.cell? ⟨b, off + j, none⟩ = some (.int .i64 l[j])
/-- The table of a code in memory, in blocks below D. -/
structure TblAt (D : Nat) (w : World) (b : Nat) (l : List Int) : Prop where
  out : ∃ (A2 : Option Addr) (c2 Rc Rs : Nat), Blk w b 56 (tb (.slice A2 l.length c2) (.slice (some ⟨Rc, 0, none⟩) l.length l.length) (.slice (some ⟨Rs, 0, none⟩) (totK l 16) (totK l 16)) (tv l) (longK l 16)) ∧ b < D ∧ IBelow D w A2 l ∧
    IRow w Rc (codesL l) ∧ Rc < D ∧ IRow w Rs (signsL l) ∧ Rs < D
theorem TblAt.keep {D b : Nat} {w w' : World} {l : List Int} (h : TblAt D w b l) (hb : Below D w w') : TblAt D w' b l := by
  obtain ⟨A2, c2, Rc, Rs, h1, h2, h3, h4, h5, h6, h7⟩ := h.out
  refine ⟨A2, c2, Rc, Rs, h1.below hb h2, h2, ?_, Blk.below h4 hb h5, h5, Blk.below h6 hb h7, h7⟩
  intro j hj
  obtain ⟨b, off, e, hlt, hc⟩ := h3 j hj
  exact ⟨b, off, e, hlt, (hb.cell (p := ⟨b, _, none⟩) hlt).trans hc⟩

set_option maxRecDepth 100000 in
set_option maxHeartbeats 4000000 in
theorem new_ok (A : Option Addr) (cap : Nat) (l : List Int) (w : World) (h : IAt w A l) (hA : A = none → l.length = 0 ∧ cap = 0) (hc : chkE l = 0) :
    Calls Try.prog 11 #[.slice A l.length cap] w fun e w' => ∃ b : Nat, e = .returned (.tuple #[.pointer (some ⟨b, 0, none⟩), .int .i64 0]) ∧ w.heap.size ≤ b ∧ TblAt w'.heap.size w' b l ∧ Below w.heap.size w w' := by
  obtain ⟨hl, hr, _⟩ := chk_ok hc
  have HA := Lib.hid h
  have HC := Lib.hid (codes_ok A cap l w h hc)
  have HCl := Lib.hid (fun W (hW : IAt W A l) => clone_any A cap l W hW hA (by omega))
  have HT := Lib.hid (fun W (hW : IAt W A l) => count_any A cap l W hW hr (by omega))
  have HO := Lib.hid (fun W (hW : IAt W A l) => ordered_any A cap l W hW hl hr)
  have HLO := Lib.hid (longK_le l)
  obtain ⟨N, hN⟩ : ∃ N, w.heap.size = N := ⟨_, rfl⟩
  have HS := Lib.hid hN
  obtain ⟨n, hn⟩ : ∃ n, l.length = n := ⟨_, rfl⟩
  have HN := Lib.hid hn
  have HTL := Lib.hid (fun k => tl_le l k)
  have hnb : n ≤ 288 := by omega
  rw [hN] at HC ⊢
  rw [hn] at HC HCl HT HO HTL ⊢
  clear h hl hc hr hA hN hn
  go_enter Try.func11, Try.ntmps11
  go_wp2_with fail
  refine HC.out.mono ?_
  rintro e w1 ⟨R, rfl, hNR, hR, hb⟩
  have HB1 := Lib.hid hb
  have HR1 := Lib.hid hR
  have HNR := Lib.hid hNR
  clear hb hR hNR
  go_wp2_with fail
  refine (HCl.out _ (HA.out.below (HS.out ▸ HB1.out))).mono ?_
  rintro e w2 ⟨A2, c2, rfl, hI2, hb⟩
  have HB2 := Lib.hid (show Below N w w2 ∧ Below w1.heap.size w1 w2 from ⟨HB1.out.trans (hb.mono (by have := HB1.out.size; rw [HS.out] at this; exact this)), hb⟩)
  have HI2 := Lib.hid hI2
  clear hb hI2
  go_wp2_with fail
  refine (HT.out _ (HA.out.below (HS.out ▸ HB2.out.1))).mono ?_
  rintro e w3 ⟨rfl, hb⟩
  have HB3 := Lib.hid (show Below N w w3 ∧ Below w1.heap.size w1 w3 ∧ Below w2.heap.size w2 w3 from ⟨HB2.out.1.trans (hb.mono (by have := HB2.out.1.size; rw [HS.out] at this; exact this)), HB2.out.2.trans (hb.mono HB2.out.2.size), hb⟩)
  clear hb
  rw [tc_ag]
  obtain ⟨t, ht⟩ : ∃ t, tv l = t := ⟨_, rfl⟩
  have HTV := Lib.hid ht
  have HO2 := Lib.hid (fun (W : World) (hW : IAt W A l) => (by have := HO.out W hW; rw [tc_ag, ht] at this; exact this : Calls Try.prog 31 #[.slice A n cap, .agg (ag t)] W fun e w' => ∃ R : Nat, e = .returned (.slice (some ⟨R, 0, none⟩) (totK l 16) (totK l 16)) ∧ W.heap.size ≤ R ∧ IRow w' R (signsL l) ∧ Below W.heap.size W w'))
  have HTT := Lib.hid (show ∀ k, t k = (tl l k : Int) from fun k => by rw [← ht]; rfl)
  rw [ht]
  obtain ⟨M, hM⟩ : ∃ M, w3.heap.size = M := ⟨_, rfl⟩
  have HM := Lib.hid hM
  obtain ⟨W4, hW4⟩ : ∃ W4, w3.alloc (.cells (tb (.slice A2 n c2) (.slice (some ⟨R, 0, none⟩) n n) (.slice none 0 0) t 0) 56) = W4 := ⟨_, rfl⟩
  have HW4 := Lib.hid hW4
  have HNM := Lib.hid (show N ≤ M by have := HB3.out.1.size; rw [HS.out, hM] at this; exact this)
  have HRM := Lib.hid (show R < M by have := HB3.out.2.1.size; have := Blk.lt HR1.out; omega)
  have HR4 := Lib.hid (show IRow W4 R (codesL l) by rw [← hW4]; exact Blk.alloc (Blk.below HR1.out HB3.out.2.1 (Blk.lt HR1.out)) _)
  have HI4 := Lib.hid (show IBelow M W4 A2 l from fun j hj => by
    obtain ⟨b, off, e, hlt, hc⟩ := HI2.out j hj
    have hlt3 : b < w3.heap.size := Nat.lt_of_lt_of_le hlt HB3.out.2.2.size
    exact ⟨b, off, e, by rw [← hM]; exact hlt3, by rw [← hW4]; exact (((Below.refl w3.heap.size w3).alloc (Nat.le_refl _) _).cell (p := ⟨b, _, none⟩) hlt3).trans ((HB3.out.2.2.cell (p := ⟨b, _, none⟩) hlt).trans hc)⟩)
  have HB4 := Lib.hid (show Below N w W4 ∧ M + 1 ≤ W4.heap.size from ⟨by rw [← hW4]; exact HB3.out.1.alloc (by rw [hM]; exact HNM.out) _, by rw [← hW4, World.size_alloc, hM]; exact Nat.le_refl _⟩)
  have HK4 := Lib.hid (show Blk W4 M 56 (tb (.slice A2 n c2) (.slice (some ⟨R, 0, none⟩) n n) (.slice none 0 0) t (longK l 1 : Int)) by
    rw [← hW4, ← hM]
    have : longK l 1 = 0 := rfl
    rw [this]
    exact Blk.new _ _ _)
  clear ht hM hW4 HR1 HI2 HB1 HB2 HB3 HT HO HC HCl
  unfold ag
  go_wp2_with fail
  have hx := HW4.out
  unfold tb at hx
  rw [hx, HM.out]
  clear hx HW4 HM
  go_loopw [7] (fun iv wr => ∃ k : Nat, 1 ≤ k ∧ k ≤ 16 ∧ iv = .int .i64 (k : Int) ∧ Hid (Below N w wr ∧ Below M W4 wr ∧ M + 1 ≤ wr.heap.size) ∧ Hid (Blk wr M 56 (tb (.slice A2 n c2) (.slice (some ⟨R, 0, none⟩) n n) (.slice none 0 0) t (longK l k : Int)))) (fun iv _ => 16 - (intOf iv).toNat)
  case atStart => exact ⟨1, by omega, by omega, rfl, Lib.hid ⟨HB4.out.1, Below.refl _ _, HB4.out.2⟩, HK4⟩
  case round =>
    clear HB4 HK4
    obtain ⟨k, hk1, hk, rfl, HB, HK⟩ := hrel
    by_cases hlt : k < 16
    · have hik : (k : Int) ≤ 15 := by omega
      have hik0 : (0 : Int) ≤ (k : Int) := by omega
      have c0 := (HK.out.cell (3 + k)).trans (tb_tally _ _ _ _ _ k hlt)
      have c1 := HK.out.cell 19
      have f1 := HK.out.frozen 19
      simp only [tb, List.getElem?_toArray, List.getElem?_cons_zero, List.getElem?_cons_succ] at c1
      rw [HTT.out k] at c0
      obtain ⟨c, hc⟩ : ∃ c : Nat, tl l k = c := ⟨_, rfl⟩
      obtain ⟨o, ho⟩ : ∃ o : Nat, longK l k = o := ⟨_, rfl⟩
      have hcb := HTL.out k
      rw [ho] at c1
      rw [hc] at c0 hcb
      by_cases hc0 : c = 0
      · subst hc0
        have HK2 := Lib.hid (show Blk wr M 56 (tb (.slice A2 n c2) (.slice (some ⟨R, 0, none⟩) n n) (.slice none 0 0) t (longK l (k + 1) : Int)) by
          have e : longK l (k + 1) = longK l k := by simp only [longK]; rw [hc, if_neg (by omega)]
          rw [e]
          exact HK.out)
        clear hc ho
        rw [show ((0 : Nat) : Int) = 0 from rfl] at c0
        go_wp2_with fail
        go_roundw
        case rel => exact ⟨k + 1, by omega, by omega, by go_num, HB, HK2⟩
        case measure => simp [intOf]; omega
      · have hcp : (0 : Int) < (c : Int) := by omega
        have HK2 := Lib.hid (show Blk (wr.setCell ⟨M, 19, none⟩ (.int .i64 (k : Int))) M 56 (tb (.slice A2 n c2) (.slice (some ⟨R, 0, none⟩) n n) (.slice none 0 0) t (longK l (k + 1) : Int)) by
          have e : longK l (k + 1) = k := by simp only [longK]; rw [hc, if_pos (by omega)]
          rw [e, ← tb_long _ _ _ _ (longK l k : Int)]
          exact HK.out.set_ 19 _)
        have HB2 := Lib.hid (show Below N w (wr.setCell ⟨M, 19, none⟩ (.int .i64 (k : Int))) ∧ Below M W4 (wr.setCell ⟨M, 19, none⟩ (.int .i64 (k : Int))) ∧ M + 1 ≤ (wr.setCell ⟨M, 19, none⟩ (.int .i64 (k : Int))).heap.size from ⟨HB.out.1.setCell (by exact HNM.out) _, HB.out.2.1.setCell (Nat.le_refl _) _, by simpa [World.setCell] using HB.out.2.2⟩)
        clear hc ho hc0
        go_wp2_with fail
        go_roundw
        case rel => exact ⟨k + 1, by omega, by omega, by go_num, HB2, HK2⟩
        case measure => simp [intOf]; omega
    · obtain rfl : k = 16 := by omega
      have q2 := HK.out.cell 2
      have q3 := HK.out.cell 3
      have q4 := HK.out.cell 4
      have q5 := HK.out.cell 5
      have q6 := HK.out.cell 6
      have q7 := HK.out.cell 7
      have q8 := HK.out.cell 8
      have q9 := HK.out.cell 9
      have q10 := HK.out.cell 10
      have q11 := HK.out.cell 11
      have q12 := HK.out.cell 12
      have q13 := HK.out.cell 13
      have q14 := HK.out.cell 14
      have q15 := HK.out.cell 15
      have q16 := HK.out.cell 16
      have q17 := HK.out.cell 17
      have q18 := HK.out.cell 18
      have f2 := HK.out.frozen 2
      simp only [tb, List.getElem?_toArray, List.getElem?_cons_zero, List.getElem?_cons_succ] at q2 q3 q4 q5 q6 q7 q8 q9 q10 q11 q12 q13 q14 q15 q16 q17 q18
      have HO3 := Lib.hid (HO2.out wr (HA.out.below (HS.out ▸ HB.out.1)))
      unfold ag at HO3
      clear HO2
      go_wp2_with fail
      refine HO3.out.mono ?_
      rintro e w5 ⟨Rs, rfl, hRs, hI5, hb⟩
      have hM1 : M < wr.heap.size := by have := HB.out.2.2; omega
      have hk5 := HK.out.below hb hM1
      have c2' := hk5.cell 2
      have f2' := hk5.frozen 2
      simp only [tb, List.getElem?_toArray, List.getElem?_cons_zero, List.getElem?_cons_succ] at c2'
      obtain ⟨z, hz⟩ : ∃ z, totK l 16 = z := ⟨_, rfl⟩
      have HZ := Lib.hid hz
      have b5 : Below M W4 w5 := HB.out.2.1.trans (hb.mono (by omega))
      have HB5 := Lib.hid (show Below N w (w5.setCell ⟨M, 2, none⟩ (.slice (some ⟨Rs, 0, none⟩) z z)) from (HB.out.1.trans (hb.mono (by have := HNM.out; omega))).setCell (by exact HNM.out) _)
      have hsz : (w5.setCell ⟨M, 2, none⟩ (.slice (some ⟨Rs, 0, none⟩) z z)).heap.size = w5.heap.size := by simp [World.setCell]
      have hw5 : M + 1 ≤ w5.heap.size := by have := hb.size; omega
      have hRs5 : Rs < w5.heap.size := Blk.lt hI5
      have HTA := Lib.hid (show TblAt (w5.setCell ⟨M, 2, none⟩ (.slice (some ⟨Rs, 0, none⟩) z z)).heap.size (w5.setCell ⟨M, 2, none⟩ (.slice (some ⟨Rs, 0, none⟩) z z)) M l by
        refine ⟨A2, c2, R, Rs, ?_, by omega, ?_, ?_, by have := HRM.out; omega, ?_, by omega⟩
        · rw [HN.out, HTV.out, hz, ← tb_signs _ _ (.slice none 0 0)]
          exact hk5.set_ 2 _
        · intro j hj
          obtain ⟨b, off, e, hlt5, hc⟩ := HI4.out j hj
          have e1 : (w5.setCell ⟨M, 2, none⟩ (.slice (some ⟨Rs, 0, none⟩) z z)).cell? ⟨b, off + j, none⟩ = w5.cell? ⟨b, off + j, none⟩ := (((Below.refl M w5).setCell (p := ⟨M, 2, none⟩) (Nat.le_refl _) _).cell (p := ⟨b, _, none⟩) hlt5)
          exact ⟨b, off, e, by omega, e1.trans ((b5.cell (p := ⟨b, _, none⟩) hlt5).trans hc)⟩
        · exact Blk.far (Blk.below HR4.out b5 HRM.out) (by show R ≠ M; have := HRM.out; omega) _
        · exact Blk.far hI5 (by show Rs ≠ M; omega) _)
      rw [hz]
      clear hb hI5 hk5 hz b5 hsz q2 q3 q4 q5 q6 q7 q8 q9 q10 q11 q12 q13 q14 q15 q16 q17 q18 f2
      go_wp2_with fail
      go_ret2
      exact ⟨M, rfl, HNM.out, HTA.out, HB5.out⟩
end Go.Proofs.Ytbgechfmbogbpaa
