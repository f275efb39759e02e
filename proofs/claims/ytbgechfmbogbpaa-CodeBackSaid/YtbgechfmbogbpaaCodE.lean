/-
  code's Codes: rows of numbers that a call makes; the code of each symbol.
-/
import Derived.Test.YtbgechfmbogbpaaCodC
import Derived.Test.YtbgechfmbogbpaaCodD
import Derived.Deep.OwnRows
namespace Go.Proofs.Ytbgechfmbogbpaa
open Go.RowKit Cod

/-- A row of numbers. -/
def rI (l : List Int) : Array Value := (l.map fun x => Value.int .i64 x).toArray
theorem rI_at (l : List Int) (j : Nat) (h : j < l.length) : (rI l)[j]? = some (.int .i64 l[j]) := by
  unfold rI
  simp [h]
theorem rI_size (l : List Int) : (rI l).size = l.length := by simp [rI]
theorem rI_set (l : List Int) (i : Nat) (v : Int) : (rI l).setIfInBounds i (.int .i64 v) = rI (l.set i v) := by
  unfold rI
  simp [List.map_set]
theorem rI_made (n : Nat) : madeCells #[.int .i64 0] n = rI (List.replicate n 0) := by
  apply Array.ext_getElem?
  intro i
  by_cases h : i < n
  · rw [rI_at _ i (by simpa using h)]
    simp [madeCells, h, Nat.mod_one]
  · rw [Array.getElem?_eq_none (by simp [madeCells]; omega), Array.getElem?_eq_none (by rw [rI_size]; simpa using h)]
def IRow (w : World) (k : Nat) (l : List Int) : Prop := Blk w k 3 (rI l)
theorem IRow.iat {w : World} {k : Nat} {l : List Int} (h : IRow w k l) : IAt w (some ⟨k, 0, none⟩) l := fun j hj =>
  ⟨k, 0, rfl, Blk.lt h, by rw [Nat.zero_add]; exact (Blk.cell h j).trans (rI_at l j hj)⟩
theorem IRow.cell {w : World} {k : Nat} {l : List Int} (h : IRow w k l) (j : Nat) (hj : j < l.length) : w.cell? ⟨k, j, none⟩ = some (.int .i64 l[j]) := (Blk.cell h j).trans (rI_at l j hj)
theorem IRow.frozen {w : World} {k : Nat} {l : List Int} (h : IRow w k l) (j : Nat) : w.frozen? ⟨k, j, none⟩ = false := Blk.frozen h j
theorem IRow.set_ {w : World} {k : Nat} {l : List Int} (h : IRow w k l) (j : Nat) (v : Int) : IRow (w.setCell ⟨k, j, none⟩ (.int .i64 v)) k (l.set j v) := by
  have := Blk.set_ h j (.int .i64 v)
  rwa [rI_set] at this
theorem make_ints (n : Nat) (hn : n ≤ 1000000) (w : World) : (Instr.makeSlice 22 (.int .i64 (n : Int)) (.int .i64 (n : Int))).run Try.prog w = .ok (.slice (some ⟨w.heap.size, 0, none⟩) n n) (w.alloc (.cells (rI (List.replicate n 0)) 3)) := by
  have := run_make_row' (P := Try.prog) 22 3 (.int .i64 0) 8 Try.underlying22 (by kernel_rfl) rfl .i64 .i64 n (by omega) (by omega) w
  rwa [rI_made] at this

theorem ag_fill (f : Nat → Int) : ((((((((((((((((#[.int .i64 0, .int .i64 0, .int .i64 0, .int .i64 0, .int .i64 0, .int .i64 0, .int .i64 0, .int .i64 0, .int .i64 0, .int .i64 0, .int .i64 0, .int .i64 0, .int .i64 0, .int .i64 0, .int .i64 0, .int .i64 0]).setIfInBounds 0 (.int .i64 (f 0))).setIfInBounds 1 (.int .i64 (f 1))).setIfInBounds 2 (.int .i64 (f 2))).setIfInBounds 3 (.int .i64 (f 3))).setIfInBounds 4 (.int .i64 (f 4))).setIfInBounds 5 (.int .i64 (f 5))).setIfInBounds 6 (.int .i64 (f 6))).setIfInBounds 7 (.int .i64 (f 7))).setIfInBounds 8 (.int .i64 (f 8))).setIfInBounds 9 (.int .i64 (f 9))).setIfInBounds 10 (.int .i64 (f 10))).setIfInBounds 11 (.int .i64 (f 11))).setIfInBounds 12 (.int .i64 (f 12))).setIfInBounds 13 (.int .i64 (f 13))).setIfInBounds 14 (.int .i64 (f 14))).setIfInBounds 15 (.int .i64 (f 15)) = ag f := by
  rw [show (#[.int .i64 0, .int .i64 0, .int .i64 0, .int .i64 0, .int .i64 0, .int .i64 0, .int .i64 0, .int .i64 0, .int .i64 0, .int .i64 0, .int .i64 0, .int .i64 0, .int .i64 0, .int .i64 0, .int .i64 0, .int .i64 0] : Array Value) = ag (fun _ => 0) from rfl]
  simp only [ag_set]
  apply ag_congr
  intro n hn
  have : n = 0 ∨ n = 1 ∨ n = 2 ∨ n = 3 ∨ n = 4 ∨ n = 5 ∨ n = 6 ∨ n = 7 ∨ n = 8 ∨ n = 9 ∨ n = 10 ∨ n = 11 ∨ n = 12 ∨ n = 13 ∨ n = 14 ∨ n = 15 := by omega
  rcases this with rfl | rfl | rfl | rfl | rfl | rfl | rfl | rfl | rfl | rfl | rfl | rfl | rfl | rfl | rfl | rfl <;> rfl
end Go.Proofs.Ytbgechfmbogbpaa
