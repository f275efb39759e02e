/-
  Matrices, points and rectangles that came in as arguments.
-/
import Derived.Test.YtbagmjedkcipgaaDoorMgMatA
import Derived.Test.YtbagmjedkcipgaaDoorMgJRowEnd
import Derived.HandedShaped
import Derived.OpenShut
import Derived.ChangeMaps5
import Derived.ChangeArms
import Derived.WideShapes
namespace Go.Proofs.YtbagmjedkcipgaaDoor
open Go.ChangeShapes Go.WideShapes Go.ChangeAt Go.RowKit Fix Mat

theorem arr6 {α : Type} {cs : Array α} (h : cs.size = 6) : ∃ c0 c1 c2 c3 c4 c5, cs = #[c0, c1, c2, c3, c4, c5] := by
  obtain ⟨l⟩ := cs
  match l, h with
  | [c0, c1, c2, c3, c4, c5], _ => exact ⟨c0, c1, c2, c3, c4, c5, rfl⟩
theorem arr4 {α : Type} {cs : Array α} (h : cs.size = 4) : ∃ c0 c1 c2 c3, cs = #[c0, c1, c2, c3] := by
  obtain ⟨l⟩ := cs
  match l, h with
  | [c0, c1, c2, c3], _ => exact ⟨c0, c1, c2, c3, rfl⟩
theorem arr2 {α : Type} {cs : Array α} (h : cs.size = 2) : ∃ c0 c1, cs = #[c0, c1] := by
  obtain ⟨l⟩ := cs
  match l, h with
  | [c0, c1], _ => exact ⟨c0, c1, rfl⟩
section
variable {H : Type} {enc : TypeId × Value → H} {w : World} {base : Nat} {spare : Nat → Bool} {held : Bool} {r : Reach} {b0 : Nat} {v : Value} {d : DataW H} {p : List MemPlace}
theorem field_int {n : Nat} {cs : List Value} {y : Option (DataW H × List MemPlace)} {xs : List (DataW H × List MemPlace)} {i : Nat} (hi : i < xs.length) (hy : y = xs[i]?) (h : DataW.trod enc Tryd.prog w base spare held n 2 cs = y) : ∃ z, cs = [.int .i64 z] := by
  rw [hy, List.getElem?_eq_getElem hi] at h
  obtain ⟨z, hz, _⟩ := DataW.trod_int Tryd.underlying2 h
  exact ⟨z, hz⟩
set_option maxRecDepth 100000 in
theorem open_mx (hv : Value.okWide Tryd.prog w r b0 23 v) (h : DataW.Trod enc Tryd.prog w base spare held 23 v d p) : ∃ m : Mx, v = mxV m := by
  obtain ⟨cs, rfl, hsz⟩ := okWide_struct Tryd.underlying23 hv
  obtain ⟨c0, c1, c2, c3, c4, c5, rfl⟩ := arr6 (hsz.trans (by kernel_rfl))
  obtain ⟨fuel, hf⟩ := h
  obtain ⟨xs, n, _, _, _, hlen, hf2⟩ := DataW.trod_struct Tryd.underlying23 hf
  have hl : xs.length = 6 := hlen
  obtain ⟨z0, e0⟩ := field_int (i := 0) (by rw [hl]; decide) rfl (hf2 0 _ rfl)
  replace e0 : List.take (Tryd.prog.cellsOf 2) (List.drop 0 [c0, c1, c2, c3, c4, c5]) = [.int .i64 z0] := e0
  rw [show Tryd.prog.cellsOf 2 = 1 by kernel_rfl] at e0
  have f0 : c0 = .int .i64 z0 := by injection e0
  obtain ⟨z1, e1⟩ := field_int (i := 1) (by rw [hl]; decide) rfl (hf2 1 _ rfl)
  replace e1 : List.take (Tryd.prog.cellsOf 2) (List.drop 1 [c0, c1, c2, c3, c4, c5]) = [.int .i64 z1] := e1
  rw [show Tryd.prog.cellsOf 2 = 1 by kernel_rfl] at e1
  have f1 : c1 = .int .i64 z1 := by injection e1
  obtain ⟨z2, e2⟩ := field_int (i := 2) (by rw [hl]; decide) rfl (hf2 2 _ rfl)
  replace e2 : List.take (Tryd.prog.cellsOf 2) (List.drop 2 [c0, c1, c2, c3, c4, c5]) = [.int .i64 z2] := e2
  rw [show Tryd.prog.cellsOf 2 = 1 by kernel_rfl] at e2
  have f2 : c2 = .int .i64 z2 := by injection e2
  obtain ⟨z3, e3⟩ := field_int (i := 3) (by rw [hl]; decide) rfl (hf2 3 _ rfl)
  replace e3 : List.take (Tryd.prog.cellsOf 2) (List.drop 3 [c0, c1, c2, c3, c4, c5]) = [.int .i64 z3] := e3
  rw [show Tryd.prog.cellsOf 2 = 1 by kernel_rfl] at e3
  have f3 : c3 = .int .i64 z3 := by injection e3
  obtain ⟨z4, e4⟩ := field_int (i := 4) (by rw [hl]; decide) rfl (hf2 4 _ rfl)
  replace e4 : List.take (Tryd.prog.cellsOf 2) (List.drop 4 [c0, c1, c2, c3, c4, c5]) = [.int .i64 z4] := e4
  rw [show Tryd.prog.cellsOf 2 = 1 by kernel_rfl] at e4
  have f4 : c4 = .int .i64 z4 := by injection e4
  obtain ⟨z5, e5⟩ := field_int (i := 5) (by rw [hl]; decide) rfl (hf2 5 _ rfl)
  replace e5 : List.take (Tryd.prog.cellsOf 2) (List.drop 5 [c0, c1, c2, c3, c4, c5]) = [.int .i64 z5] := e5
  rw [show Tryd.prog.cellsOf 2 = 1 by kernel_rfl] at e5
  have f5 : c5 = .int .i64 z5 := by injection e5
  subst f0 f1 f2 f3 f4 f5
  exact ⟨⟨z0, z1, z2, z3, z4, z5⟩, rfl⟩
end
end Go.Proofs.YtbagmjedkcipgaaDoor
