/-
  Equality of graphics states, test by test: as a plain function, and as the program compares matrices, colours and text states.
-/
import Derived.Test.YtbagmjedkcipgaaDoorMgJFldT
import Derived.Laws.StructEq
namespace Go.Proofs.YtbagmjedkcipgaaDoor
open Go.RowKit

/-- A graphics state as a value: the numbers, the font, the dashes. -/
def gsC (g : Nat → Int) (f : ByteArray) (d : Value) : Array Value := #[.int .i64 (g 0), .int .i64 (g 1), .int .i64 (g 2), .int .i64 (g 3), .int .i64 (g 4), .int .i64 (g 5), .int .i64 (g 6), .int .i64 (g 7), .int .i64 (g 8), .int .i64 (g 9), d, .int .i64 (g 10), .int .i64 (g 11), .int .i64 (g 12), .int .i64 (g 13), .int .i64 (g 14), .int .i64 (g 15), .int .i64 (g 16), .int .i64 (g 17), .int .i64 (g 18), .int .i64 (g 19), .int .i64 (g 20), .int .i64 (g 21), .int .i64 (g 22), .int .i64 (g 23), .int .i64 (g 24), .int .i64 (g 25), .int .i64 (g 26), .string f, .int .i64 (g 27)]
def eqL (l m : List Int) : Bool := decide (l = m)
def eqX (l : List Int) (f : ByteArray) (m : List Int) (k : ByteArray) : Bool := decide (l = m) && decide (f.toList = k.toList)
/-- Are two states the same? -/
def sameG (g h : Nat → Int) (f k : ByteArray) (l m : List Int) : Bool := (eqL [g 0, g 1, g 2, g 3, g 4, g 5] [h 0, h 1, h 2, h 3, h 4, h 5]) && (decide (g 6 = h 6)) && (decide (g 7 = h 7)) && (decide (g 8 = h 8)) && (decide (g 9 = h 9)) && (decide (l = m)) && (decide (g 10 = h 10)) && (eqL [g 11, g 12, g 13, g 14, g 15] [h 11, h 12, h 13, h 14, h 15]) && (eqL [g 16, g 17, g 18, g 19, g 20] [h 16, h 17, h 18, h 19, h 20]) && (eqX [g 21, g 22, g 23, g 24, g 25, g 26, g 27] f [h 21, h 22, h 23, h 24, h 25, h 26, h 27] k)
set_option maxRecDepth 100000 in
theorem eqMx (a0 a1 a2 a3 a4 a5 b0 b1 b2 b3 b4 b5 : Int) (w : World) : (Op.equalIn 10000 23 (.agg #[.int .i64 a0, .int .i64 a1, .int .i64 a2, .int .i64 a3, .int .i64 a4, .int .i64 a5]) (.agg #[.int .i64 b0, .int .i64 b1, .int .i64 b2, .int .i64 b3, .int .i64 b4, .int .i64 b5])).run Tryd.prog w = Result.ok (eqL [a0, a1, a2, a3, a4, a5] [b0, b1, b2, b3, b4, b5]) w := by
  have hS : Tryd.prog.underlying 23 = some (.struct (Tryd.prog.fieldsOf 23)) := by kernel_rfl
  rw [show (10000 : Nat) = 9999 + 1 from rfl, run_equalIn_agg w 9999 23 _ _ hS (by kernel_rfl)]
  simp only [Program.fieldsOf, Tryd.underlying23]
  go_simp
  unfold eqL
  by_cases h0 : a0 = b0
  case neg => simp [h0]
  by_cases h1 : a1 = b1
  case neg => simp [h1]
  by_cases h2 : a2 = b2
  case neg => simp [h2]
  by_cases h3 : a3 = b3
  case neg => simp [h3]
  by_cases h4 : a4 = b4
  case neg => simp [h4]
  by_cases h5 : a5 = b5
  case neg => simp [h5]
  simp [h0, h1, h2, h3, h4, h5]
set_option maxRecDepth 100000 in
theorem eqCo (a0 a1 a2 a3 a4 b0 b1 b2 b3 b4 : Int) (w : World) : (Op.equalIn 10000 36 (.agg #[.int .i64 a0, .int .i64 a1, .int .i64 a2, .int .i64 a3, .int .i64 a4]) (.agg #[.int .i64 b0, .int .i64 b1, .int .i64 b2, .int .i64 b3, .int .i64 b4])).run Tryd.prog w = Result.ok (eqL [a0, a1, a2, a3, a4] [b0, b1, b2, b3, b4]) w := by
  have hS : Tryd.prog.underlying 36 = some (.struct (Tryd.prog.fieldsOf 36)) := by kernel_rfl
  rw [show (10000 : Nat) = 9999 + 1 from rfl, run_equalIn_agg w 9999 36 _ _ hS (by kernel_rfl)]
  simp only [Program.fieldsOf, Tryd.underlying36]
  go_simp
  unfold eqL
  by_cases h0 : a0 = b0
  case neg => simp [h0]
  by_cases h1 : a1 = b1
  case neg => simp [h1]
  by_cases h2 : a2 = b2
  case neg => simp [h2]
  by_cases h3 : a3 = b3
  case neg => simp [h3]
  by_cases h4 : a4 = b4
  case neg => simp [h4]
  simp [h0, h1, h2, h3, h4]
set_option maxRecDepth 100000 in
theorem eqTx (a0 a1 a2 a3 a4 a5 a6 b0 b1 b2 b3 b4 b5 b6 : Int) (f k : ByteArray) (w : World) : (Op.equalIn 10000 38 (.agg #[.int .i64 a0, .int .i64 a1, .int .i64 a2, .int .i64 a3, .int .i64 a4, .int .i64 a5, .string f, .int .i64 a6]) (.agg #[.int .i64 b0, .int .i64 b1, .int .i64 b2, .int .i64 b3, .int .i64 b4, .int .i64 b5, .string k, .int .i64 b6])).run Tryd.prog w = Result.ok (eqX [a0, a1, a2, a3, a4, a5, a6] f [b0, b1, b2, b3, b4, b5, b6] k) w := by
  have hS : Tryd.prog.underlying 38 = some (.struct (Tryd.prog.fieldsOf 38)) := by kernel_rfl
  rw [show (10000 : Nat) = 9999 + 1 from rfl, run_equalIn_agg w 9999 38 _ _ hS (by kernel_rfl)]
  simp only [Program.fieldsOf, Tryd.underlying38]
  go_simp
  unfold eqX
  by_cases h0 : a0 = b0
  case neg => simp [h0]
  by_cases h1 : a1 = b1
  case neg => simp [h1]
  by_cases h2 : a2 = b2
  case neg => simp [h2]
  by_cases h3 : a3 = b3
  case neg => simp [h3]
  by_cases h4 : a4 = b4
  case neg => simp [h4]
  by_cases h5 : a5 = b5
  case neg => simp [h5]
  by_cases hf : f.toList = k.toList
  case neg => simp [hf]
  by_cases h6 : a6 = b6
  case neg => simp [h6]
  simp [h0, h1, h2, h3, h4, h5, hf, h6]
end Go.Proofs.YtbagmjedkcipgaaDoor
