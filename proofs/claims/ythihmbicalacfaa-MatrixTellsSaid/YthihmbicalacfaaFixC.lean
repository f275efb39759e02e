/-
  The walks of Near, Whole, Mul, Div, Root: each returns what the plain functions say, with its error.
-/
import Derived.Test.YthihmbicalacfaaFixB
import Derived.Deep.RegionWith
import Derived.RegionDies
namespace Go.Proofs.Ythihmbicalacfaa
open Go.RowKit Fix

theorem within_no (n m : Int) (w : World) (hm : 0 ≤ m) (hm2 : m ≤ 4611686018427387904) (h : n < -m ∨ m < n) :
    Calls Try.prog 75 #[.int .i64 n, .int .i64 m] w fun e w' => e = gaveUp 2 ∧ w = w' := by
  rcases h with h | h
  · exact within_low n m w hm hm2 h
  · exact within_high n m w hm hm2 h
theorem within_s (n m : Int) (w : World) (hm : 0 ≤ m) (hm2 : m ≤ 4611686018427387904) (h1 : -m ≤ n) (h2 : n ≤ m) :
    Calls Try.prog 75 #[.int .i64 n, .int .i64 m] w fun e w' => e = .returned (.int .i64 n) ∧ w' = w :=
  (within_ok n m _ hm hm2 h1 h2).mono fun _ _ ⟨e1, e2⟩ => ⟨e1, e2.symm⟩
theorem sized_s (n : Int) (w : World) (h1 : -1073741824 ≤ n) (h2 : n ≤ 1073741824) :
    Calls Try.prog 69 #[.int .i64 n] w fun e w' => e = .returned (.int .i64 n) ∧ w' = w :=
  (sized_ok n _ h1 h2).mono fun _ _ ⟨e1, e2⟩ => ⟨e1, e2.symm⟩

end Go.Proofs.Ythihmbicalacfaa
