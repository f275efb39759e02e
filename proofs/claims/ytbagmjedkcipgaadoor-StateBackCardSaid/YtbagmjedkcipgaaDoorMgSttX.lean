/-
  Colours out of operands, and what the operators of colours change.
-/
import Derived.Test.YtbagmjedkcipgaaDoorMgSttW
import Derived.Test.YtbagmjedkcipgaaDoorMgSttM
import Derived.Deep.RegionHeld3
import Derived.RegionDies
namespace Go.Proofs.YtbagmjedkcipgaaDoor
open Go.RowKit

/-- The cells of a colour of a space with so many components. -/
def colC (s : Int) (us : List Int) : Array Value := #[.int .i64 s, .int .i64 (us.getD 0 0), .int .i64 (us.getD 1 0), .int .i64 (us.getD 2 0), .int .i64 (us.getD 3 0)]
def colPtrs (g : Nat) : Array Value := #[.pointer (some ⟨g, 1, none⟩), .pointer (some ⟨g, 2, none⟩), .pointer (some ⟨g, 3, none⟩), .pointer (some ⟨g, 4, none⟩)]
theorem colPtrs_at (g : Nat) {i : Nat} (h : i < 4) : (colPtrs g)[i]? = some (.pointer (some ⟨g, i + 1, none⟩)) := by
  rcases (show i = 0 ∨ i = 1 ∨ i = 2 ∨ i = 3 by omega) with rfl | rfl | rfl | rfl <;> rfl
theorem colC_snoc (s u : Int) (us : List Int) (h : us.length < 4) : (colC s us).setIfInBounds (us.length + 1) (.int .i64 u) = colC s (us ++ [u]) := by
  match us, h with
  | [], _ => rfl
  | [_], _ => rfl
  | [_, _], _ => rfl
  | [_, _, _], _ => rfl
  | _ :: _ :: _ :: _ :: _, h => simp only [List.length_cons] at h; omega
theorem colC_at (s : Int) (us : List Int) {i : Nat} (h : i < 4) : ∃ z, (colC s us)[i + 1]? = some (.int .i64 z) := by
  rcases (show i = 0 ∨ i = 1 ∨ i = 2 ∨ i = 3 by omega) with rfl | rfl | rfl | rfl <;> exact ⟨_, rfl⟩

/-- Numeric operands in memory: their kinds and their numbers. -/
def NumsAt (W : World) (b off : Nat) (l : List (Int × Int)) : Prop := ∀ j (h : j < l.length), NumAt W b (off + j * 6) l[j].1 l[j].2
theorem NumsAt.below {W W' : World} {b off : Nat} {l : List (Int × Int)} (h : NumsAt W b off l) (hb : Below W.heap.size W W') : NumsAt W' b off l := fun j hj => (h j hj).below hb
def okCol (l : List (Int × Int)) : Bool := l.all fun p => okTo p.1 p.2 10000
def unitsL (l : List (Int × Int)) : List Int := l.map fun p => unitsOf p.1 p.2
theorem unitsL_take {l : List (Int × Int)} {i : Nat} (h : i < l.length) : unitsL (l.take (i + 1)) = unitsL (l.take i) ++ [unitsOf l[i].1 l[i].2] := by
  unfold unitsL; rw [List.take_succ_eq_append_getElem h, List.map_append]; rfl

set_option maxRecDepth 100000 in
set_option maxHeartbeats 8000000 in
theorem color_ok (b off ac : Nat) (s : Int) (l : List (Int × Int)) (W : World) (h : NumsAt W b off l) (hl : l.length ≤ 4) (hs : okCol l = true) :
    Calls Tryd.prog 46 #[.slice (some ⟨b, off, none⟩) l.length ac, .int .i64 s] W fun e w' => e = .returned (.agg (colC s (unitsL l))) ∧ Below W.heap.size W w' := by
  have hs' : ∀ j (hj : j < l.length), okTo l[j].1 l[j].2 10000 = true := by
    unfold okCol at hs
    exact fun j hj => List.all_eq_true.1 hs _ (List.getElem_mem hj)
  obtain ⟨n, hn⟩ : ∃ n, l.length = n := ⟨_, rfl⟩
  obtain ⟨U, hU⟩ : ∃ U, ((W.alloc (.cells (colC 0 []) 36)).alloc (.cells (colC s []) 36)).alloc (.cells (colPtrs (W.heap.size + 1)) 89) = U := ⟨_, rfl⟩
  obtain ⟨H, hH⟩ : ∃ H, W.heap.size = H := ⟨_, rfl⟩
  rw [hH] at hU
  have hUs : U.heap.size = H + 3 := by rw [← hU]; simp [hH]
  have hWU : Below H W U := by rw [← hU]; exact (((Below.refl _ W).alloc (Nat.le_of_eq hH.symm) _).alloc (by simp; omega) _).alloc (by simp; omega) _
  have u0 : Blk U H 36 (colC 0 []) := by rw [← hU, ← hH]; exact ((Blk.new W _ _).alloc _).alloc _
  have u1 : Blk U (H + 1) 36 (colC s []) := by
    rw [← hU, ← hH]
    have := Blk.new (W.alloc (.cells (colC 0 []) 36)) 36 (colC s [])
    rw [World.size_alloc] at this
    exact this.alloc _
  have u2 : Blk U (H + 2) 89 (colPtrs (H + 1)) := by
    rw [← hU, ← hH]
    have := Blk.new ((W.alloc (.cells (colC 0 []) 36)).alloc (.cells (colC s []) 36)) 89 (colPtrs (W.heap.size + 1))
    rw [World.size_alloc, World.size_alloc] at this
    exact this
  have HS := Lib.hid hs'
  have HH := Lib.hid hH
  have HA := Lib.hid (fun V (hV : Below H W V) => h.below (by rw [hH]; exact hV))
  have HN := Lib.hid (And.intro hn hl)
  have HU := Lib.hid (And.intro hU (And.intro hUs (And.intro hWU (And.intro u0 (And.intro u1 u2)))))
  rw [hn]
  have hnI : (n : Int) ≤ 4 := by omega
  clear h hs hs' hl hn hU hUs hWU u0 u1 u2
  go_enter Tryd.func46, Tryd.ntmps46
  go_upto_region 4 with fail
  have hU : ((W.alloc (.cells #[.int .i64 0, .int .i64 0, .int .i64 0, .int .i64 0, .int .i64 0] 36)).alloc (.cells #[.int .i64 s, .int .i64 0, .int .i64 0, .int .i64 0, .int .i64 0] 36)).alloc (.cells #[.pointer (some ⟨H + 1, 1, none⟩), .pointer (some ⟨H + 1, 2, none⟩), .pointer (some ⟨H + 1, 3, none⟩), .pointer (some ⟨H + 1, 4, none⟩)] 89) = U := HU.out.1
  rw [hU]
  clear hU
  go_loopw [17] (fun iv wr => ∃ i : Nat, i ≤ n ∧ iv = .int .i64 (i : Int) ∧ Hid (Below H W wr ∧ Blk wr H 36 (colC 0 []) ∧ Blk wr (H + 1) 36 (colC s (unitsL (l.take i))) ∧ Blk wr (H + 2) 89 (colPtrs (H + 1)) ∧ True)) (fun iv _ => n - (intOf iv).toNat)
  case atStart => exact ⟨0, by omega, rfl, Lib.hid ⟨HU.out.2.2.1, HU.out.2.2.2.1, HU.out.2.2.2.2.1, HU.out.2.2.2.2.2, trivial⟩⟩
  case round =>
    obtain ⟨i, hi, rfl, HI⟩ := hrel
    by_cases hlt : i < n
    · have hik : (i : Int) < (n : Int) := by omega
      have hik0 : (0 : Int) ≤ (i : Int) := by omega
      have hi4 : (i : Int) < 4 := by omega
      have hil : i < l.length := by rw [HN.out.1]; exact hlt
      have cp := (HI.out.2.2.2.1.cell i).trans (colPtrs_at (H + 1) (by omega))
      have HW := Lib.hid (fun (V : World) (hV : Below H W V) => withinO_ok b off i n ac l[i].1 l[i].2 10000 V (HA.out V hV i hil) hlt (HS.out i hil))
      have HT := Lib.hid (unitsL_take hil)
      have hus : (unitsL (l.take i)).length = i := by unfold unitsL; rw [List.length_map, List.length_take]; omega
      obtain ⟨us, huE⟩ : ∃ us, unitsL (l.take i) = us := ⟨_, rfl⟩
      obtain ⟨u, hu⟩ : ∃ u, unitsOf l[i].1 l[i].2 = u := ⟨_, rfl⟩
      rw [hu] at HW HT
      rw [huE] at HI HT hus
      have HU2 := Lib.hid hus
      clear hu huE hus
      go_upto_region 6 with fail
      go_region_held3 (fun W' => W'.cell? ⟨H + 2, i, none⟩ = some (.pointer (some ⟨H + 1, i + 1, none⟩))) (first | exact cp | exact CP5.out | exact CP6.out _ | fail) (first | (go_at_call 63; refine (HW.out _ (by exact below_drewN HI.out.1 1)).mono ?_; rintro e w5 ⟨rfl, hb5⟩; have HB5 : Hid (Below H W w5 ∧ Blk w5 H 36 (colC 0 []) ∧ Blk w5 (H + 1) 36 (colC s us) ∧ Blk w5 (H + 2) 89 (colPtrs (H + 1))) := Lib.hid ⟨(below_drewN HI.out.1 1).trans (hb5.mono (by have := HI.out.2.1.lt; exact Nat.le_of_lt this)), (HI.out.2.1.drewN 1).below hb5 HI.out.2.1.lt, (HI.out.2.2.1.drewN 1).below hb5 HI.out.2.2.1.lt, (HI.out.2.2.2.1.drewN 1).below hb5 HI.out.2.2.2.1.lt⟩; have CP5 : Hid (w5.cell? ⟨H + 2, i, none⟩ = some (.pointer (some ⟨H + 1, i + 1, none⟩))) := Lib.hid ((HB5.out.2.2.2.cell i).trans (colPtrs_at (H + 1) (by omega))); have CP6 : Hid (∀ v, (w5.setCell ⟨H + 1, i + 1, none⟩ v).cell? ⟨H + 2, i, none⟩ = some (.pointer (some ⟨H + 1, i + 1, none⟩))) := Lib.hid (fun v => ((HB5.out.2.2.2.far (p := ⟨H + 1, i + 1, none⟩) (by show H + 2 ≠ H + 1; omega) v).cell i).trans (colPtrs_at (H + 1) (by omega))); have f5 := HB5.out.2.2.1.frozen (i + 1); obtain ⟨z5, hz5⟩ := colC_at s us (i := i) (by omega); have c5 := (HB5.out.2.2.1.cell (i + 1)).trans hz5))
      all_goals
        go_wp2
        go_roundw
        case rel =>
          refine ⟨i + 1, by omega, by go_num, Lib.hid ⟨HB5.out.1.setCell (p := ⟨H + 1, i + 1, none⟩) (Nat.le_succ _) _, HB5.out.2.1.far (p := ⟨H + 1, i + 1, none⟩) (by show H ≠ H + 1; omega) _, ?_, HB5.out.2.2.2.far (p := ⟨H + 1, i + 1, none⟩) (by show H + 2 ≠ H + 1; omega) _, trivial⟩⟩
          have h := HB5.out.2.2.1.set_ (i + 1) (.int .i64 u)
          have e := colC_snoc s u us (by rw [HU2.out]; omega)
          rw [HU2.out] at e
          rw [e] at h
          rw [HT.out]
          exact h
        case measure => simp [intOf]; omega
    · obtain rfl : i = n := by omega
      have hE : l.take i = l := by rw [← HN.out.1, List.take_length]
      have hc := HI.out.2.2.1
      rw [hE] at hc
      have c0 : wr.cell? ⟨H + 1, 0, none⟩ = some (.int .i64 s) := (hc.cell 0).trans rfl
      have c1 : wr.cell? ⟨H + 1, 1, none⟩ = some (.int .i64 ((unitsL l).getD 0 0)) := (hc.cell 1).trans rfl
      have c2 : wr.cell? ⟨H + 1, 2, none⟩ = some (.int .i64 ((unitsL l).getD 1 0)) := (hc.cell 2).trans rfl
      have c3 : wr.cell? ⟨H + 1, 3, none⟩ = some (.int .i64 ((unitsL l).getD 2 0)) := (hc.cell 3).trans rfl
      have c4 : wr.cell? ⟨H + 1, 4, none⟩ = some (.int .i64 ((unitsL l).getD 3 0)) := (hc.cell 4).trans rfl
      obtain ⟨x0, hx0⟩ : ∃ x, (unitsL l).getD 0 0 = x := ⟨_, rfl⟩
      rw [hx0] at c1
      obtain ⟨x1, hx1⟩ : ∃ x, (unitsL l).getD 1 0 = x := ⟨_, rfl⟩
      rw [hx1] at c2
      obtain ⟨x2, hx2⟩ : ∃ x, (unitsL l).getD 2 0 = x := ⟨_, rfl⟩
      rw [hx2] at c3
      obtain ⟨x3, hx3⟩ : ∃ x, (unitsL l).getD 3 0 = x := ⟨_, rfl⟩
      rw [hx3] at c4
      have d0 : wr.cell? ⟨H, 0, none⟩ = some (.int .i64 0) := (HI.out.2.1.cell 0).trans rfl
      have d1 : wr.cell? ⟨H, 1, none⟩ = some (.int .i64 0) := (HI.out.2.1.cell 1).trans rfl
      have d2 : wr.cell? ⟨H, 2, none⟩ = some (.int .i64 0) := (HI.out.2.1.cell 2).trans rfl
      have d3 : wr.cell? ⟨H, 3, none⟩ = some (.int .i64 0) := (HI.out.2.1.cell 3).trans rfl
      have d4 : wr.cell? ⟨H, 4, none⟩ = some (.int .i64 0) := (HI.out.2.1.cell 4).trans rfl
      have g0 := HI.out.2.1.frozen 0
      have g1 := HI.out.2.1.frozen 1
      have g2 := HI.out.2.1.frozen 2
      have g3 := HI.out.2.1.frozen 3
      have g4 := HI.out.2.1.frozen 4
      have hv : colC s (unitsL l) = #[.int .i64 s, .int .i64 x0, .int .i64 x1, .int .i64 x2, .int .i64 x3] := by unfold colC; rw [hx0, hx1, hx2, hx3]
      clear hx0 hx1 hx2 hx3 hc hE
      have HV := Lib.hid hv
      clear hv
      go_wp2_with fail
      have hf : Blk (((((wr.setCell ⟨H, 0, none⟩ (.int .i64 s)).setCell ⟨H, 1, none⟩ (.int .i64 x0)).setCell ⟨H, 2, none⟩ (.int .i64 x1)).setCell ⟨H, 3, none⟩ (.int .i64 x2)).setCell ⟨H, 4, none⟩ (.int .i64 x3)) H 36 #[.int .i64 s, .int .i64 x0, .int .i64 x1, .int .i64 x2, .int .i64 x3] := by
        have h := ((((HI.out.2.1.set_ 0 (.int .i64 s)).set_ 1 (.int .i64 x0)).set_ 2 (.int .i64 x1)).set_ 3 (.int .i64 x2)).set_ 4 (.int .i64 x3)
        simpa [colC] using h
      have hlv := ldv_row (P := Tryd.prog) hf 36 _ Tryd.underlying36 rfl (by kernel_rfl)
      exact bodyPost_ret (v := .agg #[.int .i64 s, .int .i64 x0, .int .i64 x1, .int .i64 x2, .int .i64 x3]) (by simp [results, Tryd.results46, asAddr, hlv]) rfl ⟨by rw [HV.out], by
        rw [HH.out]
        exact ((((HI.out.1.setCell (p := ⟨H, 0, none⟩) (Nat.le_refl _) _).setCell (p := ⟨H, 1, none⟩) (Nat.le_refl _) _).setCell (p := ⟨H, 2, none⟩) (Nat.le_refl _) _).setCell (p := ⟨H, 3, none⟩) (Nat.le_refl _) _).setCell (p := ⟨H, 4, none⟩) (Nat.le_refl _) _⟩
set_option maxRecDepth 100000 in
set_option maxHeartbeats 8000000 in
theorem color_no (b off ac : Nat) (s : Int) (l : List (Int × Int)) (W : World) (h : NumsAt W b off l) (hl : l.length ≤ 4) (hs : okCol l = false) :
    Calls Tryd.prog 46 #[.slice (some ⟨b, off, none⟩) l.length ac, .int .i64 s] W fun e w' => e = gUp 2 ∧ Below W.heap.size W w' := by
  have hs' : okCol l = false := by
    unfold okCol at hs
    exact hs
  obtain ⟨n, hn⟩ : ∃ n, l.length = n := ⟨_, rfl⟩
  obtain ⟨U, hU⟩ : ∃ U, ((W.alloc (.cells (colC 0 []) 36)).alloc (.cells (colC s []) 36)).alloc (.cells (colPtrs (W.heap.size + 1)) 89) = U := ⟨_, rfl⟩
  obtain ⟨H, hH⟩ : ∃ H, W.heap.size = H := ⟨_, rfl⟩
  rw [hH] at hU
  have hUs : U.heap.size = H + 3 := by rw [← hU]; simp [hH]
  have hWU : Below H W U := by rw [← hU]; exact (((Below.refl _ W).alloc (Nat.le_of_eq hH.symm) _).alloc (by simp; omega) _).alloc (by simp; omega) _
  have u0 : Blk U H 36 (colC 0 []) := by rw [← hU, ← hH]; exact ((Blk.new W _ _).alloc _).alloc _
  have u1 : Blk U (H + 1) 36 (colC s []) := by
    rw [← hU, ← hH]
    have := Blk.new (W.alloc (.cells (colC 0 []) 36)) 36 (colC s [])
    rw [World.size_alloc] at this
    exact this.alloc _
  have u2 : Blk U (H + 2) 89 (colPtrs (H + 1)) := by
    rw [← hU, ← hH]
    have := Blk.new ((W.alloc (.cells (colC 0 []) 36)).alloc (.cells (colC s []) 36)) 89 (colPtrs (W.heap.size + 1))
    rw [World.size_alloc, World.size_alloc] at this
    exact this
  have HS := Lib.hid hs'
  have HH := Lib.hid hH
  have HA := Lib.hid (fun V (hV : Below H W V) => h.below (by rw [hH]; exact hV))
  have HN := Lib.hid (And.intro hn hl)
  have HU := Lib.hid (And.intro hU (And.intro hUs (And.intro hWU (And.intro u0 (And.intro u1 u2)))))
  rw [hn]
  have hnI : (n : Int) ≤ 4 := by omega
  clear h hs hs' hl hn hU hUs hWU u0 u1 u2
  go_enter Tryd.func46, Tryd.ntmps46
  go_upto_region 4 with fail
  have hU : ((W.alloc (.cells #[.int .i64 0, .int .i64 0, .int .i64 0, .int .i64 0, .int .i64 0] 36)).alloc (.cells #[.int .i64 s, .int .i64 0, .int .i64 0, .int .i64 0, .int .i64 0] 36)).alloc (.cells #[.pointer (some ⟨H + 1, 1, none⟩), .pointer (some ⟨H + 1, 2, none⟩), .pointer (some ⟨H + 1, 3, none⟩), .pointer (some ⟨H + 1, 4, none⟩)] 89) = U := HU.out.1
  rw [hU]
  clear hU
  go_loopw [17] (fun iv wr => ∃ i : Nat, i ≤ n ∧ iv = .int .i64 (i : Int) ∧ Hid (Below H W wr ∧ Blk wr H 36 (colC 0 []) ∧ Blk wr (H + 1) 36 (colC s (unitsL (l.take i))) ∧ Blk wr (H + 2) 89 (colPtrs (H + 1)) ∧ okCol (l.take i) = true)) (fun iv _ => n - (intOf iv).toNat)
  case atStart => exact ⟨0, by omega, rfl, Lib.hid ⟨HU.out.2.2.1, HU.out.2.2.2.1, HU.out.2.2.2.2.1, HU.out.2.2.2.2.2, rfl⟩⟩
  case round =>
    obtain ⟨i, hi, rfl, HI⟩ := hrel
    by_cases hlt : i < n
    · have hik : (i : Int) < (n : Int) := by omega
      have hik0 : (0 : Int) ≤ (i : Int) := by omega
      have hi4 : (i : Int) < 4 := by omega
      have hil : i < l.length := by rw [HN.out.1]; exact hlt
      have cp := (HI.out.2.2.2.1.cell i).trans (colPtrs_at (H + 1) (by omega))
      by_cases hok : okTo l[i].1 l[i].2 10000 = true
      · have HO2 := Lib.hid (show okCol (l.take (i + 1)) = true by
          unfold okCol
          rw [List.take_succ_eq_append_getElem hil, List.all_append]
          have := HI.out.2.2.2.2
          unfold okCol at this
          simp [this, hok])
        have HW := Lib.hid (fun (V : World) (hV : Below H W V) => withinO_ok b off i n ac l[i].1 l[i].2 10000 V (HA.out V hV i hil) hlt hok)
        have HT := Lib.hid (unitsL_take hil)
        have hus : (unitsL (l.take i)).length = i := by unfold unitsL; rw [List.length_map, List.length_take]; omega
        obtain ⟨us, huE⟩ : ∃ us, unitsL (l.take i) = us := ⟨_, rfl⟩
        obtain ⟨u, hu⟩ : ∃ u, unitsOf l[i].1 l[i].2 = u := ⟨_, rfl⟩
        rw [hu] at HW HT
        rw [huE] at HI HT hus
        have HU2 := Lib.hid hus
        clear hu huE hus
        go_upto_region 6 with fail
        go_region_held3 (fun W' => W'.cell? ⟨H + 2, i, none⟩ = some (.pointer (some ⟨H + 1, i + 1, none⟩))) (first | exact cp | exact CP5.out | exact CP6.out _ | fail) (first | (go_at_call 63; refine (HW.out _ (by exact below_drewN HI.out.1 1)).mono ?_; rintro e w5 ⟨rfl, hb5⟩; have HB5 : Hid (Below H W w5 ∧ Blk w5 H 36 (colC 0 []) ∧ Blk w5 (H + 1) 36 (colC s us) ∧ Blk w5 (H + 2) 89 (colPtrs (H + 1))) := Lib.hid ⟨(below_drewN HI.out.1 1).trans (hb5.mono (by have := HI.out.2.1.lt; exact Nat.le_of_lt this)), (HI.out.2.1.drewN 1).below hb5 HI.out.2.1.lt, (HI.out.2.2.1.drewN 1).below hb5 HI.out.2.2.1.lt, (HI.out.2.2.2.1.drewN 1).below hb5 HI.out.2.2.2.1.lt⟩; have CP5 : Hid (w5.cell? ⟨H + 2, i, none⟩ = some (.pointer (some ⟨H + 1, i + 1, none⟩))) := Lib.hid ((HB5.out.2.2.2.cell i).trans (colPtrs_at (H + 1) (by omega))); have CP6 : Hid (∀ v, (w5.setCell ⟨H + 1, i + 1, none⟩ v).cell? ⟨H + 2, i, none⟩ = some (.pointer (some ⟨H + 1, i + 1, none⟩))) := Lib.hid (fun v => ((HB5.out.2.2.2.far (p := ⟨H + 1, i + 1, none⟩) (by show H + 2 ≠ H + 1; omega) v).cell i).trans (colPtrs_at (H + 1) (by omega))); have f5 := HB5.out.2.2.1.frozen (i + 1); obtain ⟨z5, hz5⟩ := colC_at s us (i := i) (by omega); have c5 := (HB5.out.2.2.1.cell (i + 1)).trans hz5))
        all_goals
          go_wp2
          go_roundw
          case rel =>
            refine ⟨i + 1, by omega, by go_num, Lib.hid ⟨HB5.out.1.setCell (p := ⟨H + 1, i + 1, none⟩) (Nat.le_succ _) _, HB5.out.2.1.far (p := ⟨H + 1, i + 1, none⟩) (by show H ≠ H + 1; omega) _, ?_, HB5.out.2.2.2.far (p := ⟨H + 1, i + 1, none⟩) (by show H + 2 ≠ H + 1; omega) _, HO2.out⟩⟩
            have h := HB5.out.2.2.1.set_ (i + 1) (.int .i64 u)
            have e := colC_snoc s u us (by rw [HU2.out]; omega)
            rw [HU2.out] at e
            rw [e] at h
            rw [HT.out]
            exact h
          case measure => simp [intOf]; omega
      · have HW := Lib.hid (fun (V : World) (hV : Below H W V) => withinO_no b off i n ac l[i].1 l[i].2 10000 V (HA.out V hV i hil) hlt (by simpa using hok))
        have HB := Lib.hid HI.out.1
        have HZ := Lib.hid HI.out.2.1.lt
        clear hok
        go_upto_region 6 with fail
        go_region_dies
        all_goals
          refine (HW.out _ (by exact below_drewN HB.out 1)).mono ?_
          rintro e w5 ⟨rfl, hb5⟩
          exact ⟨rfl, rfl, by rw [HH.out]; exact (below_drewN HB.out 1).trans (hb5.mono (Nat.le_of_lt HZ.out))⟩
    · obtain rfl : i = n := by omega
      have hE : l.take i = l := by rw [← HN.out.1, List.take_length]
      have := HI.out.2.2.2.2
      rw [hE] at this
      rw [HS.out] at this
      cases this
set_option maxRecDepth 100000 in
theorem c10_ok (n : Nat) (M : Array Value) (b off ac : Nat) (l : List (Int × Int)) (W : World) (hb : Blk W n 57 M) (h : NumsAt W b off l) (hl : l.length ≤ 4) (hs : okCol l = true) (h6 : M.size = 31) :
    Calls Tryd.prog 45 #[.pointer (some ⟨n, 0, none⟩), .slice (some ⟨b, off, none⟩) l.length ac] W fun e w' => e = .returned (.tuple #[]) ∧ (∃ x0 x1 x2 x3, colC 0 (unitsL l) = #[.int .i64 0, .int .i64 x0, .int .i64 x1, .int .i64 x2, .int .i64 x3] ∧ Blk w' n 57 (((((M.setIfInBounds 12 (.int .i64 0)).setIfInBounds 13 (.int .i64 x0)).setIfInBounds 14 (.int .i64 x1)).setIfInBounds 15 (.int .i64 x2)).setIfInBounds 16 (.int .i64 x3))) ∧ Two W w' n none := by
  have HN := Lib.hid (color_ok b off ac 0 l W h hl hs)
  have HB := Lib.hid hb
  obtain ⟨x0, hx0⟩ : ∃ x, (unitsL l).getD 0 0 = x := ⟨_, rfl⟩
  obtain ⟨x1, hx1⟩ : ∃ x, (unitsL l).getD 1 0 = x := ⟨_, rfl⟩
  obtain ⟨x2, hx2⟩ : ∃ x, (unitsL l).getD 2 0 = x := ⟨_, rfl⟩
  obtain ⟨x3, hx3⟩ : ∃ x, (unitsL l).getD 3 0 = x := ⟨_, rfl⟩
  have hv : colC 0 (unitsL l) = #[.int .i64 0, .int .i64 x0, .int .i64 x1, .int .i64 x2, .int .i64 x3] := by unfold colC; rw [hx0, hx1, hx2, hx3]
  have HV := Lib.hid hv
  rw [hv] at HN
  have H6 := Lib.hid h6
  clear h hs hb h6 hl hv hx0 hx1 hx2 hx3
  go_enter Tryd.func45, Tryd.ntmps45
  go_wp2_with fail
  refine HN.out.mono ?_
  rintro e w1 ⟨rfl, hb⟩
  have b1 := HB.out.below hb HB.out.lt
  have c0 := b1.cell 12
  rw [Array.getElem?_eq_getElem (by rw [H6.out]; decide)] at c0
  have f0 := b1.frozen 12
  have c1 := b1.cell 13
  rw [Array.getElem?_eq_getElem (by rw [H6.out]; decide)] at c1
  have f1 := b1.frozen 13
  have c2 := b1.cell 14
  rw [Array.getElem?_eq_getElem (by rw [H6.out]; decide)] at c2
  have f2 := b1.frozen 14
  have c3 := b1.cell 15
  rw [Array.getElem?_eq_getElem (by rw [H6.out]; decide)] at c3
  have f3 := b1.frozen 15
  have c4 := b1.cell 16
  rw [Array.getElem?_eq_getElem (by rw [H6.out]; decide)] at c4
  have f4 := b1.frozen 16
  have HT := Lib.hid (show Blk w1 n 57 M ∧ Two W w1 n none from ⟨b1, belowTwo hb n none⟩)
  clear hb b1 HN
  go_wp2_with fail
  go_end0
  exact ⟨rfl, ⟨x0, x1, x2, x3, HV.out, (((((HT.out.1.set_ 12 (.int .i64 0)).set_ 13 (.int .i64 x0)).set_ 14 (.int .i64 x1)).set_ 15 (.int .i64 x2)).set_ 16 (.int .i64 x3))⟩, (((((HT.out.2.set_ 12 _).set_ 13 _).set_ 14 _).set_ 15 _).set_ 16 _)⟩
theorem c10_no (n : Nat) (b off ac : Nat) (l : List (Int × Int)) (W : World) (h : NumsAt W b off l) (hl : l.length ≤ 4) (hs : okCol l = false) :
    Calls Tryd.prog 45 #[.pointer (some ⟨n, 0, none⟩), .slice (some ⟨b, off, none⟩) l.length ac] W fun e w' => e = gUp 2 ∧ Two W w' n none := by
  have HN := Lib.hid (color_no b off ac 0 l W h hl hs)
  clear h hl hs
  go_enter Tryd.func45, Tryd.ntmps45
  go_wp2_with fail
  refine HN.out.mono ?_
  rintro e w1 ⟨rfl, hb⟩
  exact ⟨rfl, rfl, belowTwo hb n none⟩
set_option maxRecDepth 100000 in
theorem c11_ok (n : Nat) (M : Array Value) (b off ac : Nat) (l : List (Int × Int)) (W : World) (hb : Blk W n 57 M) (h : NumsAt W b off l) (hl : l.length ≤ 4) (hs : okCol l = true) (h6 : M.size = 31) :
    Calls Tryd.prog 47 #[.pointer (some ⟨n, 0, none⟩), .slice (some ⟨b, off, none⟩) l.length ac] W fun e w' => e = .returned (.tuple #[]) ∧ (∃ x0 x1 x2 x3, colC 0 (unitsL l) = #[.int .i64 0, .int .i64 x0, .int .i64 x1, .int .i64 x2, .int .i64 x3] ∧ Blk w' n 57 (((((M.setIfInBounds 17 (.int .i64 0)).setIfInBounds 18 (.int .i64 x0)).setIfInBounds 19 (.int .i64 x1)).setIfInBounds 20 (.int .i64 x2)).setIfInBounds 21 (.int .i64 x3))) ∧ Two W w' n none := by
  have HN := Lib.hid (color_ok b off ac 0 l W h hl hs)
  have HB := Lib.hid hb
  obtain ⟨x0, hx0⟩ : ∃ x, (unitsL l).getD 0 0 = x := ⟨_, rfl⟩
  obtain ⟨x1, hx1⟩ : ∃ x, (unitsL l).getD 1 0 = x := ⟨_, rfl⟩
  obtain ⟨x2, hx2⟩ : ∃ x, (unitsL l).getD 2 0 = x := ⟨_, rfl⟩
  obtain ⟨x3, hx3⟩ : ∃ x, (unitsL l).getD 3 0 = x := ⟨_, rfl⟩
  have hv : colC 0 (unitsL l) = #[.int .i64 0, .int .i64 x0, .int .i64 x1, .int .i64 x2, .int .i64 x3] := by unfold colC; rw [hx0, hx1, hx2, hx3]
  have HV := Lib.hid hv
  rw [hv] at HN
  have H6 := Lib.hid h6
  clear h hs hb h6 hl hv hx0 hx1 hx2 hx3
  go_enter Tryd.func47, Tryd.ntmps47
  go_wp2_with fail
  refine HN.out.mono ?_
  rintro e w1 ⟨rfl, hb⟩
  have b1 := HB.out.below hb HB.out.lt
  have c0 := b1.cell 17
  rw [Array.getElem?_eq_getElem (by rw [H6.out]; decide)] at c0
  have f0 := b1.frozen 17
  have c1 := b1.cell 18
  rw [Array.getElem?_eq_getElem (by rw [H6.out]; decide)] at c1
  have f1 := b1.frozen 18
  have c2 := b1.cell 19
  rw [Array.getElem?_eq_getElem (by rw [H6.out]; decide)] at c2
  have f2 := b1.frozen 19
  have c3 := b1.cell 20
  rw [Array.getElem?_eq_getElem (by rw [H6.out]; decide)] at c3
  have f3 := b1.frozen 20
  have c4 := b1.cell 21
  rw [Array.getElem?_eq_getElem (by rw [H6.out]; decide)] at c4
  have f4 := b1.frozen 21
  have HT := Lib.hid (show Blk w1 n 57 M ∧ Two W w1 n none from ⟨b1, belowTwo hb n none⟩)
  clear hb b1 HN
  go_wp2_with fail
  go_end0
  exact ⟨rfl, ⟨x0, x1, x2, x3, HV.out, (((((HT.out.1.set_ 17 (.int .i64 0)).set_ 18 (.int .i64 x0)).set_ 19 (.int .i64 x1)).set_ 20 (.int .i64 x2)).set_ 21 (.int .i64 x3))⟩, (((((HT.out.2.set_ 17 _).set_ 18 _).set_ 19 _).set_ 20 _).set_ 21 _)⟩
theorem c11_no (n : Nat) (b off ac : Nat) (l : List (Int × Int)) (W : World) (h : NumsAt W b off l) (hl : l.length ≤ 4) (hs : okCol l = false) :
    Calls Tryd.prog 47 #[.pointer (some ⟨n, 0, none⟩), .slice (some ⟨b, off, none⟩) l.length ac] W fun e w' => e = gUp 2 ∧ Two W w' n none := by
  have HN := Lib.hid (color_no b off ac 0 l W h hl hs)
  clear h hl hs
  go_enter Tryd.func47, Tryd.ntmps47
  go_wp2_with fail
  refine HN.out.mono ?_
  rintro e w1 ⟨rfl, hb⟩
  exact ⟨rfl, rfl, belowTwo hb n none⟩
set_option maxRecDepth 100000 in
theorem c12_ok (n : Nat) (M : Array Value) (b off ac : Nat) (l : List (Int × Int)) (W : World) (hb : Blk W n 57 M) (h : NumsAt W b off l) (hl : l.length ≤ 4) (hs : okCol l = true) (h6 : M.size = 31) :
    Calls Tryd.prog 48 #[.pointer (some ⟨n, 0, none⟩), .slice (some ⟨b, off, none⟩) l.length ac] W fun e w' => e = .returned (.tuple #[]) ∧ (∃ x0 x1 x2 x3, colC 1 (unitsL l) = #[.int .i64 1, .int .i64 x0, .int .i64 x1, .int .i64 x2, .int .i64 x3] ∧ Blk w' n 57 (((((M.setIfInBounds 12 (.int .i64 1)).setIfInBounds 13 (.int .i64 x0)).setIfInBounds 14 (.int .i64 x1)).setIfInBounds 15 (.int .i64 x2)).setIfInBounds 16 (.int .i64 x3))) ∧ Two W w' n none := by
  have HN := Lib.hid (color_ok b off ac 1 l W h hl hs)
  have HB := Lib.hid hb
  obtain ⟨x0, hx0⟩ : ∃ x, (unitsL l).getD 0 0 = x := ⟨_, rfl⟩
  obtain ⟨x1, hx1⟩ : ∃ x, (unitsL l).getD 1 0 = x := ⟨_, rfl⟩
  obtain ⟨x2, hx2⟩ : ∃ x, (unitsL l).getD 2 0 = x := ⟨_, rfl⟩
  obtain ⟨x3, hx3⟩ : ∃ x, (unitsL l).getD 3 0 = x := ⟨_, rfl⟩
  have hv : colC 1 (unitsL l) = #[.int .i64 1, .int .i64 x0, .int .i64 x1, .int .i64 x2, .int .i64 x3] := by unfold colC; rw [hx0, hx1, hx2, hx3]
  have HV := Lib.hid hv
  rw [hv] at HN
  have H6 := Lib.hid h6
  clear h hs hb h6 hl hv hx0 hx1 hx2 hx3
  go_enter Tryd.func48, Tryd.ntmps48
  go_wp2_with fail
  refine HN.out.mono ?_
  rintro e w1 ⟨rfl, hb⟩
  have b1 := HB.out.below hb HB.out.lt
  have c0 := b1.cell 12
  rw [Array.getElem?_eq_getElem (by rw [H6.out]; decide)] at c0
  have f0 := b1.frozen 12
  have c1 := b1.cell 13
  rw [Array.getElem?_eq_getElem (by rw [H6.out]; decide)] at c1
  have f1 := b1.frozen 13
  have c2 := b1.cell 14
  rw [Array.getElem?_eq_getElem (by rw [H6.out]; decide)] at c2
  have f2 := b1.frozen 14
  have c3 := b1.cell 15
  rw [Array.getElem?_eq_getElem (by rw [H6.out]; decide)] at c3
  have f3 := b1.frozen 15
  have c4 := b1.cell 16
  rw [Array.getElem?_eq_getElem (by rw [H6.out]; decide)] at c4
  have f4 := b1.frozen 16
  have HT := Lib.hid (show Blk w1 n 57 M ∧ Two W w1 n none from ⟨b1, belowTwo hb n none⟩)
  clear hb b1 HN
  go_wp2_with fail
  go_end0
  exact ⟨rfl, ⟨x0, x1, x2, x3, HV.out, (((((HT.out.1.set_ 12 (.int .i64 1)).set_ 13 (.int .i64 x0)).set_ 14 (.int .i64 x1)).set_ 15 (.int .i64 x2)).set_ 16 (.int .i64 x3))⟩, (((((HT.out.2.set_ 12 _).set_ 13 _).set_ 14 _).set_ 15 _).set_ 16 _)⟩
theorem c12_no (n : Nat) (b off ac : Nat) (l : List (Int × Int)) (W : World) (h : NumsAt W b off l) (hl : l.length ≤ 4) (hs : okCol l = false) :
    Calls Tryd.prog 48 #[.pointer (some ⟨n, 0, none⟩), .slice (some ⟨b, off, none⟩) l.length ac] W fun e w' => e = gUp 2 ∧ Two W w' n none := by
  have HN := Lib.hid (color_no b off ac 1 l W h hl hs)
  clear h hl hs
  go_enter Tryd.func48, Tryd.ntmps48
  go_wp2_with fail
  refine HN.out.mono ?_
  rintro e w1 ⟨rfl, hb⟩
  exact ⟨rfl, rfl, belowTwo hb n none⟩
set_option maxRecDepth 100000 in
theorem c13_ok (n : Nat) (M : Array Value) (b off ac : Nat) (l : List (Int × Int)) (W : World) (hb : Blk W n 57 M) (h : NumsAt W b off l) (hl : l.length ≤ 4) (hs : okCol l = true) (h6 : M.size = 31) :
    Calls Tryd.prog 49 #[.pointer (some ⟨n, 0, none⟩), .slice (some ⟨b, off, none⟩) l.length ac] W fun e w' => e = .returned (.tuple #[]) ∧ (∃ x0 x1 x2 x3, colC 1 (unitsL l) = #[.int .i64 1, .int .i64 x0, .int .i64 x1, .int .i64 x2, .int .i64 x3] ∧ Blk w' n 57 (((((M.setIfInBounds 17 (.int .i64 1)).setIfInBounds 18 (.int .i64 x0)).setIfInBounds 19 (.int .i64 x1)).setIfInBounds 20 (.int .i64 x2)).setIfInBounds 21 (.int .i64 x3))) ∧ Two W w' n none := by
  have HN := Lib.hid (color_ok b off ac 1 l W h hl hs)
  have HB := Lib.hid hb
  obtain ⟨x0, hx0⟩ : ∃ x, (unitsL l).getD 0 0 = x := ⟨_, rfl⟩
  obtain ⟨x1, hx1⟩ : ∃ x, (unitsL l).getD 1 0 = x := ⟨_, rfl⟩
  obtain ⟨x2, hx2⟩ : ∃ x, (unitsL l).getD 2 0 = x := ⟨_, rfl⟩
  obtain ⟨x3, hx3⟩ : ∃ x, (unitsL l).getD 3 0 = x := ⟨_, rfl⟩
  have hv : colC 1 (unitsL l) = #[.int .i64 1, .int .i64 x0, .int .i64 x1, .int .i64 x2, .int .i64 x3] := by unfold colC; rw [hx0, hx1, hx2, hx3]
  have HV := Lib.hid hv
  rw [hv] at HN
  have H6 := Lib.hid h6
  clear h hs hb h6 hl hv hx0 hx1 hx2 hx3
  go_enter Tryd.func49, Tryd.ntmps49
  go_wp2_with fail
  refine HN.out.mono ?_
  rintro e w1 ⟨rfl, hb⟩
  have b1 := HB.out.below hb HB.out.lt
  have c0 := b1.cell 17
  rw [Array.getElem?_eq_getElem (by rw [H6.out]; decide)] at c0
  have f0 := b1.frozen 17
  have c1 := b1.cell 18
  rw [Array.getElem?_eq_getElem (by rw [H6.out]; decide)] at c1
  have f1 := b1.frozen 18
  have c2 := b1.cell 19
  rw [Array.getElem?_eq_getElem (by rw [H6.out]; decide)] at c2
  have f2 := b1.frozen 19
  have c3 := b1.cell 20
  rw [Array.getElem?_eq_getElem (by rw [H6.out]; decide)] at c3
  have f3 := b1.frozen 20
  have c4 := b1.cell 21
  rw [Array.getElem?_eq_getElem (by rw [H6.out]; decide)] at c4
  have f4 := b1.frozen 21
  have HT := Lib.hid (show Blk w1 n 57 M ∧ Two W w1 n none from ⟨b1, belowTwo hb n none⟩)
  clear hb b1 HN
  go_wp2_with fail
  go_end0
  exact ⟨rfl, ⟨x0, x1, x2, x3, HV.out, (((((HT.out.1.set_ 17 (.int .i64 1)).set_ 18 (.int .i64 x0)).set_ 19 (.int .i64 x1)).set_ 20 (.int .i64 x2)).set_ 21 (.int .i64 x3))⟩, (((((HT.out.2.set_ 17 _).set_ 18 _).set_ 19 _).set_ 20 _).set_ 21 _)⟩
theorem c13_no (n : Nat) (b off ac : Nat) (l : List (Int × Int)) (W : World) (h : NumsAt W b off l) (hl : l.length ≤ 4) (hs : okCol l = false) :
    Calls Tryd.prog 49 #[.pointer (some ⟨n, 0, none⟩), .slice (some ⟨b, off, none⟩) l.length ac] W fun e w' => e = gUp 2 ∧ Two W w' n none := by
  have HN := Lib.hid (color_no b off ac 1 l W h hl hs)
  clear h hl hs
  go_enter Tryd.func49, Tryd.ntmps49
  go_wp2_with fail
  refine HN.out.mono ?_
  rintro e w1 ⟨rfl, hb⟩
  exact ⟨rfl, rfl, belowTwo hb n none⟩
set_option maxRecDepth 100000 in
theorem c14_ok (n : Nat) (M : Array Value) (b off ac : Nat) (l : List (Int × Int)) (W : World) (hb : Blk W n 57 M) (h : NumsAt W b off l) (hl : l.length ≤ 4) (hs : okCol l = true) (h6 : M.size = 31) :
    Calls Tryd.prog 50 #[.pointer (some ⟨n, 0, none⟩), .slice (some ⟨b, off, none⟩) l.length ac] W fun e w' => e = .returned (.tuple #[]) ∧ (∃ x0 x1 x2 x3, colC 2 (unitsL l) = #[.int .i64 2, .int .i64 x0, .int .i64 x1, .int .i64 x2, .int .i64 x3] ∧ Blk w' n 57 (((((M.setIfInBounds 12 (.int .i64 2)).setIfInBounds 13 (.int .i64 x0)).setIfInBounds 14 (.int .i64 x1)).setIfInBounds 15 (.int .i64 x2)).setIfInBounds 16 (.int .i64 x3))) ∧ Two W w' n none := by
  have HN := Lib.hid (color_ok b off ac 2 l W h hl hs)
  have HB := Lib.hid hb
  obtain ⟨x0, hx0⟩ : ∃ x, (unitsL l).getD 0 0 = x := ⟨_, rfl⟩
  obtain ⟨x1, hx1⟩ : ∃ x, (unitsL l).getD 1 0 = x := ⟨_, rfl⟩
  obtain ⟨x2, hx2⟩ : ∃ x, (unitsL l).getD 2 0 = x := ⟨_, rfl⟩
  obtain ⟨x3, hx3⟩ : ∃ x, (unitsL l).getD 3 0 = x := ⟨_, rfl⟩
  have hv : colC 2 (unitsL l) = #[.int .i64 2, .int .i64 x0, .int .i64 x1, .int .i64 x2, .int .i64 x3] := by unfold colC; rw [hx0, hx1, hx2, hx3]
  have HV := Lib.hid hv
  rw [hv] at HN
  have H6 := Lib.hid h6
  clear h hs hb h6 hl hv hx0 hx1 hx2 hx3
  go_enter Tryd.func50, Tryd.ntmps50
  go_wp2_with fail
  refine HN.out.mono ?_
  rintro e w1 ⟨rfl, hb⟩
  have b1 := HB.out.below hb HB.out.lt
  have c0 := b1.cell 12
  rw [Array.getElem?_eq_getElem (by rw [H6.out]; decide)] at c0
  have f0 := b1.frozen 12
  have c1 := b1.cell 13
  rw [Array.getElem?_eq_getElem (by rw [H6.out]; decide)] at c1
  have f1 := b1.frozen 13
  have c2 := b1.cell 14
  rw [Array.getElem?_eq_getElem (by rw [H6.out]; decide)] at c2
  have f2 := b1.frozen 14
  have c3 := b1.cell 15
  rw [Array.getElem?_eq_getElem (by rw [H6.out]; decide)] at c3
  have f3 := b1.frozen 15
  have c4 := b1.cell 16
  rw [Array.getElem?_eq_getElem (by rw [H6.out]; decide)] at c4
  have f4 := b1.frozen 16
  have HT := Lib.hid (show Blk w1 n 57 M ∧ Two W w1 n none from ⟨b1, belowTwo hb n none⟩)
  clear hb b1 HN
  go_wp2_with fail
  go_end0
  exact ⟨rfl, ⟨x0, x1, x2, x3, HV.out, (((((HT.out.1.set_ 12 (.int .i64 2)).set_ 13 (.int .i64 x0)).set_ 14 (.int .i64 x1)).set_ 15 (.int .i64 x2)).set_ 16 (.int .i64 x3))⟩, (((((HT.out.2.set_ 12 _).set_ 13 _).set_ 14 _).set_ 15 _).set_ 16 _)⟩
theorem c14_no (n : Nat) (b off ac : Nat) (l : List (Int × Int)) (W : World) (h : NumsAt W b off l) (hl : l.length ≤ 4) (hs : okCol l = false) :
    Calls Tryd.prog 50 #[.pointer (some ⟨n, 0, none⟩), .slice (some ⟨b, off, none⟩) l.length ac] W fun e w' => e = gUp 2 ∧ Two W w' n none := by
  have HN := Lib.hid (color_no b off ac 2 l W h hl hs)
  clear h hl hs
  go_enter Tryd.func50, Tryd.ntmps50
  go_wp2_with fail
  refine HN.out.mono ?_
  rintro e w1 ⟨rfl, hb⟩
  exact ⟨rfl, rfl, belowTwo hb n none⟩
set_option maxRecDepth 100000 in
theorem c15_ok (n : Nat) (M : Array Value) (b off ac : Nat) (l : List (Int × Int)) (W : World) (hb : Blk W n 57 M) (h : NumsAt W b off l) (hl : l.length ≤ 4) (hs : okCol l = true) (h6 : M.size = 31) :
    Calls Tryd.prog 51 #[.pointer (some ⟨n, 0, none⟩), .slice (some ⟨b, off, none⟩) l.length ac] W fun e w' => e = .returned (.tuple #[]) ∧ (∃ x0 x1 x2 x3, colC 2 (unitsL l) = #[.int .i64 2, .int .i64 x0, .int .i64 x1, .int .i64 x2, .int .i64 x3] ∧ Blk w' n 57 (((((M.setIfInBounds 17 (.int .i64 2)).setIfInBounds 18 (.int .i64 x0)).setIfInBounds 19 (.int .i64 x1)).setIfInBounds 20 (.int .i64 x2)).setIfInBounds 21 (.int .i64 x3))) ∧ Two W w' n none := by
  have HN := Lib.hid (color_ok b off ac 2 l W h hl hs)
  have HB := Lib.hid hb
  obtain ⟨x0, hx0⟩ : ∃ x, (unitsL l).getD 0 0 = x := ⟨_, rfl⟩
  obtain ⟨x1, hx1⟩ : ∃ x, (unitsL l).getD 1 0 = x := ⟨_, rfl⟩
  obtain ⟨x2, hx2⟩ : ∃ x, (unitsL l).getD 2 0 = x := ⟨_, rfl⟩
  obtain ⟨x3, hx3⟩ : ∃ x, (unitsL l).getD 3 0 = x := ⟨_, rfl⟩
  have hv : colC 2 (unitsL l) = #[.int .i64 2, .int .i64 x0, .int .i64 x1, .int .i64 x2, .int .i64 x3] := by unfold colC; rw [hx0, hx1, hx2, hx3]
  have HV := Lib.hid hv
  rw [hv] at HN
  have H6 := Lib.hid h6
  clear h hs hb h6 hl hv hx0 hx1 hx2 hx3
  go_enter Tryd.func51, Tryd.ntmps51
  go_wp2_with fail
  refine HN.out.mono ?_
  rintro e w1 ⟨rfl, hb⟩
  have b1 := HB.out.below hb HB.out.lt
  have c0 := b1.cell 17
  rw [Array.getElem?_eq_getElem (by rw [H6.out]; decide)] at c0
  have f0 := b1.frozen 17
  have c1 := b1.cell 18
  rw [Array.getElem?_eq_getElem (by rw [H6.out]; decide)] at c1
  have f1 := b1.frozen 18
  have c2 := b1.cell 19
  rw [Array.getElem?_eq_getElem (by rw [H6.out]; decide)] at c2
  have f2 := b1.frozen 19
  have c3 := b1.cell 20
  rw [Array.getElem?_eq_getElem (by rw [H6.out]; decide)] at c3
  have f3 := b1.frozen 20
  have c4 := b1.cell 21
  rw [Array.getElem?_eq_getElem (by rw [H6.out]; decide)] at c4
  have f4 := b1.frozen 21
  have HT := Lib.hid (show Blk w1 n 57 M ∧ Two W w1 n none from ⟨b1, belowTwo hb n none⟩)
  clear hb b1 HN
  go_wp2_with fail
  go_end0
  exact ⟨rfl, ⟨x0, x1, x2, x3, HV.out, (((((HT.out.1.set_ 17 (.int .i64 2)).set_ 18 (.int .i64 x0)).set_ 19 (.int .i64 x1)).set_ 20 (.int .i64 x2)).set_ 21 (.int .i64 x3))⟩, (((((HT.out.2.set_ 17 _).set_ 18 _).set_ 19 _).set_ 20 _).set_ 21 _)⟩
theorem c15_no (n : Nat) (b off ac : Nat) (l : List (Int × Int)) (W : World) (h : NumsAt W b off l) (hl : l.length ≤ 4) (hs : okCol l = false) :
    Calls Tryd.prog 51 #[.pointer (some ⟨n, 0, none⟩), .slice (some ⟨b, off, none⟩) l.length ac] W fun e w' => e = gUp 2 ∧ Two W w' n none := by
  have HN := Lib.hid (color_no b off ac 2 l W h hl hs)
  clear h hl hs
  go_enter Tryd.func51, Tryd.ntmps51
  go_wp2_with fail
  refine HN.out.mono ?_
  rintro e w1 ⟨rfl, hb⟩
  exact ⟨rfl, rfl, belowTwo hb n none⟩
end Go.Proofs.YtbagmjedkcipgaaDoor
