/-
  matrix: the cells of a matrix, Check, One, Move, Scale.
-/
import Derived.Test.YtbagmjedkcipgaaDoorMgMatGv
import Derived.Test.YtbagmjedkcipgaaDoorMgJFixMath
import Derived.StillTailTactics
import Derived.LoopTactic
import Derived.IntWalk
import Derived.Deep.RegionWith
import Derived.Deep.DeepCutAuto
import Derived.RegionTactic
import Derived.BigQuiet
import Derived.Deep.RegionHeld3
namespace Go.Proofs.YtbagmjedkcipgaaDoor
open Go.RowKit Fix Mat

/-- The coefficient of number k. -/
def Mat.Mx.at (m : Mx) : Nat → Int
  | 0 => m.a
  | 1 => m.b
  | 2 => m.c
  | 3 => m.d
  | 4 => m.e
  | _ => m.f
theorem six {k : Nat} (h : k < 6) : k = 0 ∨ k = 1 ∨ k = 2 ∨ k = 3 ∨ k = 4 ∨ k = 5 := by omega
theorem okM_at {m : Mx} (h : ∀ k, k < 6 → inRange (m.at k) = true) : okM m = true :=
  okM_mk (h 0 (by decide)) (h 1 (by decide)) (h 2 (by decide)) (h 3 (by decide)) (h 4 (by decide)) (h 5 (by decide))
theorem okM_not {m : Mx} {k : Nat} (hk : k < 6) (h : ¬ inRange (m.at k) = true) : okM m = false := by
  refine Bool.eq_false_iff.2 fun ho => h ?_
  obtain ⟨h1, h2, h3, h4, h5, h6⟩ := okM_yes ho
  rcases six hk with rfl | rfl | rfl | rfl | rfl | rfl
  · exact h1
  · exact h2
  · exact h3
  · exact h4
  · exact h5
  · exact h6

/-- A matrix in memory, and as a value. -/
def mxC (m : Mx) : Array Value := #[.int .i64 m.a, .int .i64 m.b, .int .i64 m.c, .int .i64 m.d, .int .i64 m.e, .int .i64 m.f]
def mxV (m : Mx) : Value := .agg #[.int .i64 m.a, .int .i64 m.b, .int .i64 m.c, .int .i64 m.d, .int .i64 m.e, .int .i64 m.f]
def ptV (x y : Int) : Value := .agg #[.int .i64 x, .int .i64 y]
theorem mxC_at (m : Mx) {k : Nat} (h : k < 6) : (mxC m)[k]? = some (.int .i64 (m.at k)) := by
  rcases six h with rfl | rfl | rfl | rfl | rfl | rfl <;> rfl
/-- The addresses of six cells. -/
def ptrs (b : Nat) : Value := .agg #[.pointer (some ⟨b, 0, none⟩), .pointer (some ⟨b, 1, none⟩), .pointer (some ⟨b, 2, none⟩), .pointer (some ⟨b, 3, none⟩), .pointer (some ⟨b, 4, none⟩), .pointer (some ⟨b, 5, none⟩)]
theorem ptrs_at (b k : Nat) (h : k < 6) (w : World) : (Instr.index 68 (ptrs b) (.int .i64 (k : Int))).run Tryd.prog w = .ok (.pointer (some ⟨b, k, none⟩)) w := by
  rcases six h with rfl | rfl | rfl | rfl | rfl | rfl <;> kernel_rfl
/-- What Check answers. -/
def chkM (m : Mx) : Int := if okM m then 0 else 2

/-- A block of six, laid as it is. -/
theorem six_cells {w : World} {g : Nat} {t : TypeId} {v0 v1 v2 v3 v4 v5 : Value} (h : Blk w g t #[v0, v1, v2, v3, v4, v5]) :
    (w.cell? ⟨g, 0, none⟩ = some v0 ∧ w.cell? ⟨g, 1, none⟩ = some v1 ∧ w.cell? ⟨g, 2, none⟩ = some v2 ∧ w.cell? ⟨g, 3, none⟩ = some v3 ∧ w.cell? ⟨g, 4, none⟩ = some v4 ∧ w.cell? ⟨g, 5, none⟩ = some v5) ∧
    (w.frozen? ⟨g, 0, none⟩ = false ∧ w.frozen? ⟨g, 1, none⟩ = false ∧ w.frozen? ⟨g, 2, none⟩ = false ∧ w.frozen? ⟨g, 3, none⟩ = false ∧ w.frozen? ⟨g, 4, none⟩ = false ∧ w.frozen? ⟨g, 5, none⟩ = false) :=
  ⟨⟨(h.cell 0).trans rfl, (h.cell 1).trans rfl, (h.cell 2).trans rfl, (h.cell 3).trans rfl, (h.cell 4).trans rfl, (h.cell 5).trans rfl⟩, ⟨h.frozen 0, h.frozen 1, h.frozen 2, h.frozen 3, h.frozen 4, h.frozen 5⟩⟩
/-- What six stores into a block of the call's own leave. -/
theorem below_six {B g : Nat} {w w' : World} (h : Below B w w') (hg : B ≤ g) (u0 u1 u2 u3 u4 u5 : Value) :
    Below B w ((((((w'.setCell ⟨g, 0, none⟩ u0).setCell ⟨g, 1, none⟩ u1).setCell ⟨g, 2, none⟩ u2).setCell ⟨g, 3, none⟩ u3).setCell ⟨g, 4, none⟩ u4).setCell ⟨g, 5, none⟩ u5) :=
  (((((h.setCell (p := ⟨g, 0, none⟩) hg _).setCell (p := ⟨g, 1, none⟩) hg _).setCell (p := ⟨g, 2, none⟩) hg _).setCell (p := ⟨g, 3, none⟩) hg _).setCell (p := ⟨g, 4, none⟩) hg _).setCell (p := ⟨g, 5, none⟩) hg _

set_option maxRecDepth 100000 in
set_option maxHeartbeats 1000000 in
theorem cells_any (b : Nat) (w : World) :
    Calls Tryd.prog 27 #[.pointer (some ⟨b, 0, none⟩)] w fun e w' => e = .returned (ptrs b) ∧ Below w.heap.size w w' := by
  unfold ptrs
  obtain ⟨N, hN⟩ : ∃ N, w.heap.size = N := ⟨_, rfl⟩
  have HB := Lib.hid ((Below.refl _ w).alloc (Nat.le_refl _) (.cells #[.pointer none, .pointer none, .pointer none, .pointer none, .pointer none, .pointer none] 68))
  have HC := Lib.hid (Blk.new w 68 #[.pointer none, .pointer none, .pointer none, .pointer none, .pointer none, .pointer none])
  rw [hN] at HB HC ⊢
  go_enter Tryd.func27, Tryd.ntmps27
  go_upto_region 1 with fail
  obtain ⟨w1, hw1⟩ : ∃ w1, w.alloc (.cells #[.pointer none, .pointer none, .pointer none, .pointer none, .pointer none, .pointer none] 68) = w1 := ⟨_, rfl⟩
  rw [hw1] at HB HC ⊢
  clear hw1 hN
  go_still_tail 19, (by kernel_rfl)
  obtain ⟨wd, hwd⟩ : ∃ wd, ({ heap := w1.heap, tape := w1.tape, drawn := w1.drawn + 1, os := w1.os, output := w1.output } : World) = wd := ⟨_, rfl⟩
  have hC : Blk wd N 68 #[.pointer none, .pointer none, .pointer none, .pointer none, .pointer none, .pointer none] := by rw [← hwd]; exact HC.out
  have HB2 := Lib.hid (show Below N w wd by rw [← hwd]; exact below_drewN HB.out 1)
  rw [hwd]
  clear hwd
  obtain ⟨⟨c0, c1, c2, c3, c4, c5⟩, ⟨f0, f1, f2, f3, f4, f5⟩⟩ := six_cells hC
  clear hC
  go_wp2_with fail
  refine bodyPost_ret (v := .agg #[.pointer (some ⟨b, 0, none⟩), .pointer (some ⟨b, 1, none⟩), .pointer (some ⟨b, 2, none⟩), .pointer (some ⟨b, 3, none⟩), .pointer (some ⟨b, 4, none⟩), .pointer (some ⟨b, 5, none⟩)]) (by simp [results, Tryd.results27, go_sem, c0, c1, c2, c3, c4, c5]) rfl ?_
  exact ⟨rfl, below_six HB2.out (Nat.le_refl _) _ _ _ _ _ _⟩

set_option maxRecDepth 100000 in
set_option maxHeartbeats 1000000 in
theorem check_any (m : Mx) (w : World) :
    Calls Tryd.prog 19 #[mxV m] w fun e w' => e = .returned (.int .i64 (chkM m)) ∧ Below w.heap.size w w' := by
  unfold mxV
  obtain ⟨N, hN⟩ : ∃ N, w.heap.size = N := ⟨_, rfl⟩
  have HB := Lib.hid ((Below.refl _ w).alloc (Nat.le_refl _) (.cells (mxC m) 23))
  have HC := Lib.hid (Blk.new w 23 (mxC m))
  have hS : (w.alloc (.cells (mxC m) 23)).heap.size = N + 1 := by rw [World.size_alloc, hN]
  rw [hN] at HB HC ⊢
  have HMx := Lib.hid (show mxC m = #[.int .i64 m.a, .int .i64 m.b, .int .i64 m.c, .int .i64 m.d, .int .i64 m.e, .int .i64 m.f] from rfl)
  rw [HMx.out] at HB HC hS
  go_enter Tryd.func19, Tryd.ntmps19
  go_upto_region 1 with fail
  obtain ⟨w1, hw1⟩ : ∃ w1, w.alloc (.cells #[.int .i64 m.a, .int .i64 m.b, .int .i64 m.c, .int .i64 m.d, .int .i64 m.e, .int .i64 m.f] 23) = w1 := ⟨_, rfl⟩
  rw [hw1] at HB HC hS ⊢
  have HS := Lib.hid hS
  clear hw1 hN hS
  go_wp2_with fail
  refine (cells_any N w1).mono ?_
  rintro e w2 ⟨rfl, hb⟩
  have HB2 := Lib.hid (HB.out.trans (hb.mono (by rw [HS.out]; omega)))
  have HC2 : Hid (Blk w2 N 23 (mxC m)) := Lib.hid (by rw [HMx.out]; exact HC.out.below hb (by rw [HS.out]; omega))
  obtain ⟨P, hP⟩ : ∃ P, ptrs N = P := ⟨_, rfl⟩
  have HP := Lib.hid (fun k (h : k < 6) (W : World) => hP ▸ ptrs_at N k h W)
  rw [hP]
  clear hb hP HB HC
  go_wp2_with fail
  go_loopw [6] (fun i wr => ∃ k : Nat, k ≤ 6 ∧ i = .int .i64 (k : Int) ∧ Hid (∀ j, j < k → inRange (m.at j) = true) ∧ wr = w2) (fun i _ => 6 - (intOf i).toNat)
  case atStart => exact ⟨0, by omega, rfl, Lib.hid (fun j h => by omega), rfl⟩
  case round =>
    obtain ⟨k, hk, rfl, hinv, rfl⟩ := hrel
    by_cases hlt : k < 6
    · have hi := HP.out k hlt
      have hcell : wr.cell? ⟨N, k, none⟩ = some (.int .i64 (m.at k)) := (HC2.out.cell k).trans (mxC_at m hlt)
      have HV := Lib.hid (show m.at k = m.at k from rfl)
      obtain ⟨v, hv⟩ : ∃ v, m.at k = v := ⟨_, rfl⟩
      rw [hv] at hcell
      by_cases hr : inRange v = true
      · have hr2 := inRange_yes hr
        have h1 : ¬ v < -1073741824 := by omega
        have h2 : ¬ 1073741824 < v := by omega
        have HV := Lib.hid (show inRange (m.at k) = true by rw [hv]; exact hr)
        clear hr hr2 hv
        go_wp2_with fail
        go_roundw
        case rel =>
          refine ⟨k + 1, by omega, by go_num, Lib.hid (fun j hj => ?_), trivial⟩
          by_cases h : j < k
          · exact hinv.out j h
          · obtain rfl : j = k := by omega
            exact HV.out
        case measure => simp [intOf]; omega
      · have HE := Lib.hid (show chkM m = 2 by unfold chkM; rw [okM_not hlt (by rw [hv]; exact hr)]; rfl)
        rcases inRange_no hr with h1 | h1
        · clear hr hv
          go_wp2_with fail
          go_ret
          exact ⟨ret_int HE.out.symm, HB2.out⟩
        · have h0 : ¬ v < -1073741824 := by omega
          clear hr hv
          go_wp2_with fail
          go_ret
          exact ⟨ret_int HE.out.symm, HB2.out⟩
    · obtain rfl : k = 6 := by omega
      have HE := Lib.hid (show chkM m = 0 by unfold chkM; rw [okM_at hinv.out]; rfl)
      go_wp2_with fail
      go_ret
      exact ⟨ret_int HE.out.symm, HB2.out⟩

theorem mx_new (w : World) (t : TypeId) (v0 v1 v2 v3 v4 v5 : Value) : Blk (w.alloc (.cells #[v0, v1, v2, v3, v4, v5] t)) w.heap.size t #[v0, v1, v2, v3, v4, v5] := Blk.new w t _

end Go.Proofs.YtbagmjedkcipgaaDoor
