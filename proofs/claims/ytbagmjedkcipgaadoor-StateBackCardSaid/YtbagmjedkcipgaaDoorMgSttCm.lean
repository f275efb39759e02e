/-
  Matrices out of operands.
-/
import Derived.Test.YtbagmjedkcipgaaDoorMgSttX
import Derived.Test.YtbagmjedkcipgaaDoorMgSttO
import Derived.Deep.Cut
namespace Go.Proofs.YtbagmjedkcipgaaDoor
open Go.RowKit Mat

/-- Six numbers, the first i of them laid, the others zero. -/
def mixC (us : List Int) (i : Nat) : Array Value := ((us.take i ++ List.replicate (6 - i) 0).map fun z => Value.int .i64 z).toArray
theorem mix_at {us : List Int} (h : us.length = 6) {i : Nat} (hi : i < 6) : (mixC us i)[i]? = some (.int .i64 0) := by
  match us, h with
  | [_, _, _, _, _, _], _ => rcases (show i = 0 ∨ i = 1 ∨ i = 2 ∨ i = 3 ∨ i = 4 ∨ i = 5 by omega) with rfl | rfl | rfl | rfl | rfl | rfl <;> rfl
theorem mix_next {us : List Int} (h : us.length = 6) {i : Nat} (hi : i < 6) {u : Int} (hu : us.getD i 0 = u) : (mixC us i).setIfInBounds i (.int .i64 u) = mixC us (i + 1) := by
  subst hu
  match us, h with
  | [_, _, _, _, _, _], _ => rcases (show i = 0 ∨ i = 1 ∨ i = 2 ∨ i = 3 ∨ i = 4 ∨ i = 5 by omega) with rfl | rfl | rfl | rfl | rfl | rfl <;> rfl
theorem mix_six {us : List Int} (h : us.length = 6) {i : Nat} (hi : i < 6) {u : Int} (hu : us.getD i 0 = u) : (mixC us 6)[i]? = some (.int .i64 u) := by
  subst hu
  match us, h with
  | [_, _, _, _, _, _], _ => rcases (show i = 0 ∨ i = 1 ∨ i = 2 ∨ i = 3 ∨ i = 4 ∨ i = 5 by omega) with rfl | rfl | rfl | rfl | rfl | rfl <;> rfl

set_option maxRecDepth 100000 in
set_option maxHeartbeats 4000000 in
theorem of_any (a b c d e f : Int) (W : World) :
    Calls Tryd.prog 62 #[.agg #[.int .i64 a, .int .i64 b, .int .i64 c, .int .i64 d, .int .i64 e, .int .i64 f]] W fun e' w' => e' = .returned (mxV ⟨a, b, c, d, e, f⟩) ∧ Below W.heap.size W w' := by
  obtain ⟨H, hH⟩ : ∃ H, W.heap.size = H := ⟨_, rfl⟩
  obtain ⟨U, hU⟩ : ∃ U, ((W.alloc (.cells #[.int .i64 a, .int .i64 b, .int .i64 c, .int .i64 d, .int .i64 e, .int .i64 f] 84)).alloc (.cells (mixC [a, b, c, d, e, f] 0) 23)).alloc (.cells (mixC [a, b, c, d, e, f] 0) 23) = U := ⟨_, rfl⟩
  have hUs : U.heap.size = H + 3 := by rw [← hU]; simp [hH]
  have hWU : Below H W U := by rw [← hU]; exact (((Below.refl _ W).alloc (Nat.le_of_eq hH.symm) _).alloc (by simp; omega) _).alloc (by simp; omega) _
  have u0 : Blk U H 84 #[.int .i64 a, .int .i64 b, .int .i64 c, .int .i64 d, .int .i64 e, .int .i64 f] := by rw [← hU, ← hH]; exact ((Blk.new W _ _).alloc _).alloc _
  have u1 : Blk U (H + 1) 23 (mixC [a, b, c, d, e, f] 0) := by
    rw [← hU, ← hH]
    have := Blk.new (W.alloc (.cells #[.int .i64 a, .int .i64 b, .int .i64 c, .int .i64 d, .int .i64 e, .int .i64 f] 84)) 23 (mixC [a, b, c, d, e, f] 0)
    rw [World.size_alloc] at this
    exact this.alloc _
  have u2 : Blk U (H + 2) 23 (mixC [a, b, c, d, e, f] 0) := by
    rw [← hU, ← hH]
    have := Blk.new ((W.alloc (.cells #[.int .i64 a, .int .i64 b, .int .i64 c, .int .i64 d, .int .i64 e, .int .i64 f] 84)).alloc (.cells (mixC [a, b, c, d, e, f] 0) 23)) 23 (mixC [a, b, c, d, e, f] 0)
    rw [World.size_alloc, World.size_alloc] at this
    exact this
  have HC := Lib.hid (cells_any (H + 2) U)
  have HH := Lib.hid hH
  have HU := Lib.hid (And.intro hU (And.intro hUs (And.intro hWU (And.intro u0 (And.intro u1 u2)))))
  clear hU hUs hWU u0 u1 u2
  go_enter Tryd.func62, Tryd.ntmps62
  go_upto_region 2 with fail
  have hU : ((W.alloc (.cells #[.int .i64 a, .int .i64 b, .int .i64 c, .int .i64 d, .int .i64 e, .int .i64 f] 84)).alloc (.cells #[.int .i64 0, .int .i64 0, .int .i64 0, .int .i64 0, .int .i64 0, .int .i64 0] 23)).alloc (.cells #[.int .i64 0, .int .i64 0, .int .i64 0, .int .i64 0, .int .i64 0, .int .i64 0] 23) = U := HU.out.1
  rw [hU]
  clear hU
  go_wp2_with fail
  refine HC.out.mono ?_
  rintro e' w1 ⟨rfl, hb⟩
  have HB := Lib.hid (show Below H W w1 ∧ Blk w1 H 84 #[.int .i64 a, .int .i64 b, .int .i64 c, .int .i64 d, .int .i64 e, .int .i64 f] ∧ Blk w1 (H + 1) 23 (mixC [a, b, c, d, e, f] 0) ∧ Blk w1 (H + 2) 23 (mixC [a, b, c, d, e, f] 0) from ⟨HU.out.2.2.1.trans (hb.mono (by rw [HU.out.2.1]; omega)), HU.out.2.2.2.1.below hb HU.out.2.2.2.1.lt, HU.out.2.2.2.2.1.below hb HU.out.2.2.2.2.1.lt, HU.out.2.2.2.2.2.below hb HU.out.2.2.2.2.2.lt⟩)
  clear hb HC
  have hix : ∀ (k : Nat), k < 6 → ∀ V : World, (Instr.index 68 (ptrs (H + 2)) (.int .i64 (k : Int))).run Tryd.prog V = .ok (.pointer (some ⟨H + 2, k, none⟩)) V := fun k hk V => ptrs_at (H + 2) k hk V
  have HIX := Lib.hid hix
  clear hix
  go_upto_region 3 with fail
  go_loopw [7] (fun vi wr => ∃ i : Nat, i ≤ 6 ∧ vi = .int .i64 (i : Int) ∧ Hid (Below H W wr ∧ Blk wr H 84 #[.int .i64 a, .int .i64 b, .int .i64 c, .int .i64 d, .int .i64 e, .int .i64 f] ∧ Blk wr (H + 1) 23 (mixC [a, b, c, d, e, f] 0) ∧ Blk wr (H + 2) 23 (mixC [a, b, c, d, e, f] i))) (fun vi _ => 6 - (intOf vi).toNat)
  case atStart => exact ⟨0, by omega, rfl, HB⟩
  case round =>
    clear HB HU
    obtain ⟨i, hi, rfl, HN⟩ := hrel
    by_cases hlt : i < 6
    · have hik : (i : Int) < 6 := by omega
      have hik0 : (0 : Int) ≤ (i : Int) := by omega
      obtain ⟨u, hu⟩ : ∃ u, [a, b, c, d, e, f].getD i 0 = u := ⟨_, rfl⟩
      have hq := HIX.out i hlt
      have c0 := (HN.out.2.1.cell i).trans (mix_six (us := [a, b, c, d, e, f]) rfl hlt hu)
      have c2 := (HN.out.2.2.2.cell i).trans (mix_at (us := [a, b, c, d, e, f]) rfl hlt)
      have f2 := HN.out.2.2.2.frozen i
      have HM := Lib.hid (mix_next (us := [a, b, c, d, e, f]) rfl hlt hu)
      clear hu
      go_wp2_with fail
      go_roundw
      case rel =>
        refine ⟨i + 1, by omega, by go_num, Lib.hid ⟨HN.out.1.setCell (p := ⟨H + 2, i, none⟩) (by show H ≤ H + 2; omega) _, HN.out.2.1.far (p := ⟨H + 2, i, none⟩) (by show H ≠ H + 2; omega) _, HN.out.2.2.1.far (p := ⟨H + 2, i, none⟩) (by show H + 1 ≠ H + 2; omega) _, ?_⟩⟩
        have h := HN.out.2.2.2.set_ i (.int .i64 u)
        rw [HM.out] at h
        exact h
      case measure => simp [intOf]; omega
    · obtain rfl : i = 6 := by omega
      have b2 : Blk wr (H + 2) 23 #[.int .i64 a, .int .i64 b, .int .i64 c, .int .i64 d, .int .i64 e, .int .i64 f] := HN.out.2.2.2
      have b1 : Blk wr (H + 1) 23 #[.int .i64 0, .int .i64 0, .int .i64 0, .int .i64 0, .int .i64 0, .int .i64 0] := HN.out.2.2.1
      have c0 := b2.cell 0
      have c1 := b2.cell 1
      have c2 := b2.cell 2
      have c3 := b2.cell 3
      have c4 := b2.cell 4
      have c5 := b2.cell 5
      have d0 := b1.cell 0
      have d1 := b1.cell 1
      have d2 := b1.cell 2
      have d3 := b1.cell 3
      have d4 := b1.cell 4
      have d5 := b1.cell 5
      have g0 := b1.frozen 0
      have g1 := b1.frozen 1
      have g2 := b1.frozen 2
      have g3 := b1.frozen 3
      have g4 := b1.frozen 4
      have g5 := b1.frozen 5
      have hf : Blk ((((((wr.setCell ⟨H + 1, 0, none⟩ (.int .i64 a)).setCell ⟨H + 1, 1, none⟩ (.int .i64 b)).setCell ⟨H + 1, 2, none⟩ (.int .i64 c)).setCell ⟨H + 1, 3, none⟩ (.int .i64 d)).setCell ⟨H + 1, 4, none⟩ (.int .i64 e)).setCell ⟨H + 1, 5, none⟩ (.int .i64 f)) (H + 1) 23 #[.int .i64 a, .int .i64 b, .int .i64 c, .int .i64 d, .int .i64 e, .int .i64 f] := by
        have h := (((((b1.set_ 0 (.int .i64 a)).set_ 1 (.int .i64 b)).set_ 2 (.int .i64 c)).set_ 3 (.int .i64 d)).set_ 4 (.int .i64 e)).set_ 5 (.int .i64 f)
        simpa using h
      have hlv := Lib.hid (ldv_row (P := Tryd.prog) hf 23 _ Tryd.underlying23 rfl (by kernel_rfl))
      have HB6 := Lib.hid (below_six HN.out.1 (Nat.le_succ H) (.int .i64 a) (.int .i64 b) (.int .i64 c) (.int .i64 d) (.int .i64 e) (.int .i64 f))
      clear b1 b2 hf
      go_wp2_with fail
      exact bodyPost_ret (v := mxV ⟨a, b, c, d, e, f⟩) (by simp [results, Tryd.results62, asAddr, hlv.out, mxV]) rfl ⟨rfl, by rw [HH.out]; exact HB6.out⟩
def okNums (l : List (Int × Int)) : Bool := l.all fun p => isNum p.1 p.2
set_option maxRecDepth 100000 in
set_option maxHeartbeats 4000000 in
theorem matrix_ok (B off ac : Nat) (l : List (Int × Int)) (a b c d e f : Int) (W : World) (h : NumsAt W B off l) (hl : l.length = 6) (hu : unitsL l = [a, b, c, d, e, f]) (hs : okNums l = true) :
    Calls Tryd.prog 35 #[.slice (some ⟨B, off, none⟩) 6 ac] W fun e' w' => e' = .returned (mxV ⟨a, b, c, d, e, f⟩) ∧ Below W.heap.size W w' := by
  obtain ⟨H, hH⟩ : ∃ H, W.heap.size = H := ⟨_, rfl⟩
  obtain ⟨U, hU⟩ : ∃ U, (W.alloc (.cells (mixC [a, b, c, d, e, f] 0) 23)).alloc (.cells (mixC [a, b, c, d, e, f] 0) 84) = U := ⟨_, rfl⟩
  have hUs : U.heap.size = H + 2 := by rw [← hU]; simp [hH]
  have hWU : Below H W U := by rw [← hU]; exact ((Below.refl _ W).alloc (Nat.le_of_eq hH.symm) _).alloc (by simp; omega) _
  have u0 : Blk U H 23 (mixC [a, b, c, d, e, f] 0) := by rw [← hU, ← hH]; exact (Blk.new W _ _).alloc _
  have u1 : Blk U (H + 1) 84 (mixC [a, b, c, d, e, f] 0) := by
    rw [← hU, ← hH]
    have := Blk.new (W.alloc (.cells (mixC [a, b, c, d, e, f] 0) 23)) 84 (mixC [a, b, c, d, e, f] 0)
    rw [World.size_alloc] at this
    exact this
  have HH := Lib.hid hH
  have HU := Lib.hid (And.intro hU (And.intro hUs (And.intro hWU (And.intro u0 u1))))
  have HA := Lib.hid (fun V (hV : Below H W V) => h.below (by rw [hH]; exact hV))
  have HL := Lib.hid hl
  have HUn := Lib.hid hu
  have HS := Lib.hid hs
  clear h hl hu hs hU hUs hWU u0 u1
  go_enter Tryd.func35, Tryd.ntmps35
  go_upto_region 2 with fail
  have hU : (W.alloc (.cells #[.int .i64 0, .int .i64 0, .int .i64 0, .int .i64 0, .int .i64 0, .int .i64 0] 23)).alloc (.cells #[.int .i64 0, .int .i64 0, .int .i64 0, .int .i64 0, .int .i64 0, .int .i64 0] 84) = U := HU.out.1
  rw [hU]
  clear hU
  go_upto_region 3 with fail
  go_loopw [5] (fun vi wr => ∃ i : Nat, i ≤ 6 ∧ vi = .int .i64 (i : Int) ∧ Hid (Below H W wr ∧ Blk wr H 23 (mixC [a, b, c, d, e, f] 0) ∧ Blk wr (H + 1) 84 (mixC [a, b, c, d, e, f] i) ∧ okNums (l.take i) = true)) (fun vi _ => 6 - (intOf vi).toNat)
  case atStart => exact ⟨0, by omega, rfl, Lib.hid ⟨HU.out.2.2.1, HU.out.2.2.2.1, HU.out.2.2.2.2, rfl⟩⟩
  case round =>
    clear HU
    obtain ⟨i, hi, rfl, HN⟩ := hrel
    by_cases hlt : i < 6
    · have hik : (i : Int) < 6 := by omega
      have hik0 : (0 : Int) ≤ (i : Int) := by omega
      have hil : i < l.length := by rw [HL.out]; exact hlt
      obtain ⟨u, hu⟩ : ∃ u, unitsOf l[i].1 l[i].2 = u := ⟨_, rfl⟩
      have hu2 : [a, b, c, d, e, f].getD i 0 = u := by
        rw [← HUn.out]
        simp [unitsL, List.getD, hil, hu]
      have hok : isNum l[i].1 l[i].2 = true := by
        have := HS.out
        unfold okNums at this
        exact List.all_eq_true.1 this _ (List.getElem_mem hil)
      have HW := Lib.hid (number_ok B off i 6 ac l[i].1 l[i].2 _ (HA.out _ HN.out.1 i hil) hlt hok)
      have HK := Lib.hid (show okNums (l.take (i + 1)) = true by
        have h := HN.out.2.2.2
        unfold okNums at *
        rw [List.take_succ_eq_append_getElem hil, List.all_append, h]
        simp [hok])
      rw [hu] at HW
      have HM := Lib.hid (mix_next (us := [a, b, c, d, e, f]) rfl hlt hu2)
      have HC2 := Lib.hid (mix_at (us := [a, b, c, d, e, f]) rfl hlt)
      clear hu hu2 hok hil
      go_wp2_with fail
      refine HW.out.mono ?_
      rintro e' w2 ⟨rfl, hb⟩
      have HB := Lib.hid (show Below H W w2 ∧ Blk w2 H 23 (mixC [a, b, c, d, e, f] 0) ∧ Blk w2 (H + 1) 84 (mixC [a, b, c, d, e, f] i) from ⟨HN.out.1.trans (hb.mono (by rw [← HH.out]; exact HN.out.1.size)), HN.out.2.1.below hb HN.out.2.1.lt, HN.out.2.2.1.below hb HN.out.2.2.1.lt⟩)
      have c2 := (HB.out.2.2.cell i).trans HC2.out
      have f2 := HB.out.2.2.frozen i
      clear hb
      go_wp2_with fail
      go_roundw
      case rel =>
        refine ⟨i + 1, by omega, by go_num, Lib.hid ⟨HB.out.1.setCell (p := ⟨H + 1, i, none⟩) (by show H ≤ H + 1; omega) _, HB.out.2.1.far (p := ⟨H + 1, i, none⟩) (by show H ≠ H + 1; omega) _, ?_, HK.out⟩⟩
        have h := HB.out.2.2.set_ i (.int .i64 u)
        rw [HM.out] at h
        exact h
      case measure => simp [intOf]; omega
    · obtain rfl : i = 6 := by omega
      have HOf := Lib.hid (of_any a b c d e f wr)
      have b2 : Blk wr (H + 1) 84 #[.int .i64 a, .int .i64 b, .int .i64 c, .int .i64 d, .int .i64 e, .int .i64 f] := HN.out.2.2.1
      have c0 := b2.cell 0
      have c1 := b2.cell 1
      have c2 := b2.cell 2
      have c3 := b2.cell 3
      have c4 := b2.cell 4
      have c5 := b2.cell 5
      go_wp2_with fail
      refine HOf.out.mono ?_
      rintro e' w2 ⟨rfl, hb⟩
      have b1 : Blk w2 H 23 #[.int .i64 0, .int .i64 0, .int .i64 0, .int .i64 0, .int .i64 0, .int .i64 0] := HN.out.2.1.below hb HN.out.2.1.lt
      have hB := HN.out.1.trans (hb.mono (by rw [← HH.out]; exact HN.out.1.size))
      have d0 := b1.cell 0
      have d1 := b1.cell 1
      have d2 := b1.cell 2
      have d3 := b1.cell 3
      have d4 := b1.cell 4
      have d5 := b1.cell 5
      have g0 := b1.frozen 0
      have g1 := b1.frozen 1
      have g2 := b1.frozen 2
      have g3 := b1.frozen 3
      have g4 := b1.frozen 4
      have g5 := b1.frozen 5
      have hf : Blk ((((((w2.setCell ⟨H, 0, none⟩ (.int .i64 a)).setCell ⟨H, 1, none⟩ (.int .i64 b)).setCell ⟨H, 2, none⟩ (.int .i64 c)).setCell ⟨H, 3, none⟩ (.int .i64 d)).setCell ⟨H, 4, none⟩ (.int .i64 e)).setCell ⟨H, 5, none⟩ (.int .i64 f)) H 23 #[.int .i64 a, .int .i64 b, .int .i64 c, .int .i64 d, .int .i64 e, .int .i64 f] := by
        have h := (((((b1.set_ 0 (.int .i64 a)).set_ 1 (.int .i64 b)).set_ 2 (.int .i64 c)).set_ 3 (.int .i64 d)).set_ 4 (.int .i64 e)).set_ 5 (.int .i64 f)
        simpa using h
      have hlv := Lib.hid (ldv_row (P := Tryd.prog) hf 23 _ Tryd.underlying23 rfl (by kernel_rfl))
      have HB6 := Lib.hid (below_six hB (Nat.le_refl H) (.int .i64 a) (.int .i64 b) (.int .i64 c) (.int .i64 d) (.int .i64 e) (.int .i64 f))
      clear b1 b2 hf hb hB c0 c1 c2 c3 c4 c5
      unfold mxV
      go_wp2_with fail
      exact bodyPost_ret (v := mxV ⟨a, b, c, d, e, f⟩) (by simp [results, Tryd.results35, asAddr, hlv.out, mxV]) rfl ⟨rfl, by rw [HH.out]; exact HB6.out⟩
set_option maxRecDepth 100000 in
set_option maxHeartbeats 4000000 in
theorem matrix_no (B off ac : Nat) (l : List (Int × Int)) (a b c d e f : Int) (W : World) (h : NumsAt W B off l) (hl : l.length = 6) (hu : unitsL l = [a, b, c, d, e, f]) (hs : okNums l = false) :
    Calls Tryd.prog 35 #[.slice (some ⟨B, off, none⟩) 6 ac] W fun e' w' => e' = gUp 2 ∧ Below W.heap.size W w' := by
  obtain ⟨H, hH⟩ : ∃ H, W.heap.size = H := ⟨_, rfl⟩
  obtain ⟨U, hU⟩ : ∃ U, (W.alloc (.cells (mixC [a, b, c, d, e, f] 0) 23)).alloc (.cells (mixC [a, b, c, d, e, f] 0) 84) = U := ⟨_, rfl⟩
  have hUs : U.heap.size = H + 2 := by rw [← hU]; simp [hH]
  have hWU : Below H W U := by rw [← hU]; exact ((Below.refl _ W).alloc (Nat.le_of_eq hH.symm) _).alloc (by simp; omega) _
  have u0 : Blk U H 23 (mixC [a, b, c, d, e, f] 0) := by rw [← hU, ← hH]; exact (Blk.new W _ _).alloc _
  have u1 : Blk U (H + 1) 84 (mixC [a, b, c, d, e, f] 0) := by
    rw [← hU, ← hH]
    have := Blk.new (W.alloc (.cells (mixC [a, b, c, d, e, f] 0) 23)) 84 (mixC [a, b, c, d, e, f] 0)
    rw [World.size_alloc] at this
    exact this
  have HH := Lib.hid hH
  have HU := Lib.hid (And.intro hU (And.intro hUs (And.intro hWU (And.intro u0 u1))))
  have HA := Lib.hid (fun V (hV : Below H W V) => h.below (by rw [hH]; exact hV))
  have HL := Lib.hid hl
  have HUn := Lib.hid hu
  have HS := Lib.hid hs
  clear h hl hu hs hU hUs hWU u0 u1
  go_enter Tryd.func35, Tryd.ntmps35
  go_upto_region 2 with fail
  have hU : (W.alloc (.cells #[.int .i64 0, .int .i64 0, .int .i64 0, .int .i64 0, .int .i64 0, .int .i64 0] 23)).alloc (.cells #[.int .i64 0, .int .i64 0, .int .i64 0, .int .i64 0, .int .i64 0, .int .i64 0] 84) = U := HU.out.1
  rw [hU]
  clear hU
  go_upto_region 3 with fail
  go_loopw [5] (fun vi wr => ∃ i : Nat, i ≤ 6 ∧ vi = .int .i64 (i : Int) ∧ Hid (Below H W wr ∧ Blk wr H 23 (mixC [a, b, c, d, e, f] 0) ∧ Blk wr (H + 1) 84 (mixC [a, b, c, d, e, f] i) ∧ okNums (l.take i) = true)) (fun vi _ => 6 - (intOf vi).toNat)
  case atStart => exact ⟨0, by omega, rfl, Lib.hid ⟨HU.out.2.2.1, HU.out.2.2.2.1, HU.out.2.2.2.2, rfl⟩⟩
  case round =>
    clear HU
    obtain ⟨i, hi, rfl, HN⟩ := hrel
    by_cases hlt : i < 6
    · have hik : (i : Int) < 6 := by omega
      have hik0 : (0 : Int) ≤ (i : Int) := by omega
      have hil : i < l.length := by rw [HL.out]; exact hlt
      obtain ⟨u, hu⟩ : ∃ u, unitsOf l[i].1 l[i].2 = u := ⟨_, rfl⟩
      have hu2 : [a, b, c, d, e, f].getD i 0 = u := by
        rw [← HUn.out]
        simp [unitsL, List.getD, hil, hu]
      by_cases hok : isNum l[i].1 l[i].2 = true
      · have HW := Lib.hid (number_ok B off i 6 ac l[i].1 l[i].2 _ (HA.out _ HN.out.1 i hil) hlt hok)
        have HK := Lib.hid (show okNums (l.take (i + 1)) = true by
          have h := HN.out.2.2.2
          unfold okNums at *
          rw [List.take_succ_eq_append_getElem hil, List.all_append, h]
          simp [hok])
        rw [hu] at HW
        have HM := Lib.hid (mix_next (us := [a, b, c, d, e, f]) rfl hlt hu2)
        have HC2 := Lib.hid (mix_at (us := [a, b, c, d, e, f]) rfl hlt)
        clear hu hu2 hok hil
        go_wp2_with fail
        refine HW.out.mono ?_
        rintro e' w2 ⟨rfl, hb⟩
        have HB := Lib.hid (show Below H W w2 ∧ Blk w2 H 23 (mixC [a, b, c, d, e, f] 0) ∧ Blk w2 (H + 1) 84 (mixC [a, b, c, d, e, f] i) from ⟨HN.out.1.trans (hb.mono (by rw [← HH.out]; exact HN.out.1.size)), HN.out.2.1.below hb HN.out.2.1.lt, HN.out.2.2.1.below hb HN.out.2.2.1.lt⟩)
        have c2 := (HB.out.2.2.cell i).trans HC2.out
        have f2 := HB.out.2.2.frozen i
        clear hb
        go_wp2_with fail
        go_roundw
        case rel =>
          refine ⟨i + 1, by omega, by go_num, Lib.hid ⟨HB.out.1.setCell (p := ⟨H + 1, i, none⟩) (by show H ≤ H + 1; omega) _, HB.out.2.1.far (p := ⟨H + 1, i, none⟩) (by show H ≠ H + 1; omega) _, ?_, HK.out⟩⟩
          have h := HB.out.2.2.set_ i (.int .i64 u)
          rw [HM.out] at h
          exact h
        case measure => simp [intOf]; omega
      · have HW := Lib.hid (number_no B off i 6 ac l[i].1 l[i].2 _ (HA.out _ HN.out.1 i hil) hlt (by simpa using hok))
        clear hu hu2 hok hil
        go_wp2_with fail
        refine HW.out.mono ?_
        rintro e' w2 ⟨rfl, hb⟩
        exact ⟨rfl, rfl, by rw [HH.out]; exact HN.out.1.trans (hb.mono (by rw [← HH.out]; exact HN.out.1.size))⟩
    · obtain rfl : i = 6 := by omega
      have h := HN.out.2.2.2
      rw [← HL.out, List.take_length, HS.out] at h
      cases h
end Go.Proofs.YtbagmjedkcipgaaDoor
