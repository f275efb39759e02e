/-
  The walks of bit's small functions: whole, place, fits, and of a reader's At and Left.
-/
import Derived.Test.YtbgechfmbogbpaaBlk
import Derived.Test.YtbgechfmbogbpaaBitMath
import Derived.WalkKit
import Derived.WalkSpells
import Derived.BigQuiet
import Derived.Lib.Hide
namespace Go.Proofs.Ytbgechfmbogbpaa
open Go.RowKit Bt

set_option maxHeartbeats 400000 in
theorem place_high (n : Nat) (w : World) (h1 : n ≤ 9000000000000000000) :
    Calls Try.prog 67 #[.int .i64 (n : Int), .int .i64 2] w fun e w' => e = .returned (.int .i64 (plc 2 n : Nat)) ∧ w = w' := by
  go_enter Try.func67, Try.ntmps67
  go_wp2
  go_ret
  exact ⟨ret_int (by unfold plc; rw [if_pos rfl]; omega), rfl⟩
set_option maxHeartbeats 400000 in
theorem place_low (n : Nat) (o : Int) (w : World) (h1 : n ≤ 9000000000000000000) (ho : o ≠ 2) :
    Calls Try.prog 67 #[.int .i64 (n : Int), .int .i64 o] w fun e w' => e = .returned (.int .i64 (plc o n : Nat)) ∧ w = w' := by
  have hb : (o == 2) = false := by simpa using ho
  go_enter Try.func67, Try.ntmps67
  go_wp2
  go_ret
  exact ⟨ret_int (by unfold plc; rw [if_neg ho]; omega), rfl⟩
theorem place_any (n : Nat) (o : Int) (w : World) (h1 : n ≤ 9000000000000000000) :
    Calls Try.prog 67 #[.int .i64 (n : Int), .int .i64 o] w fun e w' => e = .returned (.int .i64 (plc o n : Nat)) ∧ w = w' := by
  by_cases ho : o = 2
  · subst ho; exact place_high n w h1
  · exact place_low n o w h1 ho

set_option maxHeartbeats 400000 in
theorem fits_any (n set o : Int) (w : World) :
    Calls Try.prog 66 #[.int .i64 n, .int .i64 set, .int .i64 o] w fun e w' => e = .returned (.bool (!bad set n o)) ∧ w = w' := by
  by_cases h0 : 0 ≤ n
  · by_cases h1 : n ≤ 24
    · by_cases hs : set = 0
      · subst hs
        go_enter Try.func66, Try.ntmps66
        go_wp2
        go_ret
        exact ⟨ret_bool (by unfold bad; simp; omega), rfl⟩
      · have hb : (set == 0) = false := by simpa using hs
        go_enter Try.func66, Try.ntmps66
        go_wp2
        go_ret
        exact ⟨ret_bool (by
          unfold bad
          rw [decide_eq_false (show ¬ n < 0 by omega), decide_eq_false (show ¬ 24 < n by omega), decide_eq_true (show set ≠ 0 from hs)]
          by_cases he : set = o
          · subst he; simp
          · simp [he]), rfl⟩
    · go_enter Try.func66, Try.ntmps66
      go_wp2
      go_ret
      exact ⟨ret_bool (by unfold bad; rw [decide_eq_true (show 24 < n by omega)]; simp), rfl⟩
  · go_enter Try.func66, Try.ntmps66
    go_wp2
    go_ret
    exact ⟨ret_bool (by unfold bad; rw [decide_eq_true (show n < 0 by omega)]; simp), rfl⟩

/-- A reader, of the type T (the program's or the document's): block g. -/
def Rd (T : TypeId) (w : World) (g : Nat) (s : ByteArray) (a : Nat) (o : Int) : Prop := Blk w g T #[.string s, .int .i64 (a : Int), .int .i64 o]

set_option maxHeartbeats 400000 in
theorem rleft_any (g : Nat) (s : ByteArray) (a : Nat) (o : Int) (w : World) (h : Rd 70 w g s a o) (h1 : a ≤ 8 * s.size) (hs : s.size ≤ 1000000000000000000) :
    Calls Try.prog 23 #[.pointer (some ⟨g, 0, none⟩)] w fun e w' => e = .returned (.int .i64 (((8 * s.size : Nat) : Int) - a)) ∧ ∃ k, w' = w.drewN k := by
  have c0 : w.cell? ⟨g, 0, none⟩ = some (.string s) := (h.cell 0).trans rfl
  have c1 : w.cell? ⟨g, 1, none⟩ = some (.int .i64 (a : Int)) := (h.cell 1).trans rfl
  have H := Lib.hid h
  clear h
  go_enter Try.func23, Try.ntmps23
  go_wp2_with fail
  go_quiet (fail)
  go_wp2
  go_ret
  exact ⟨ret_int (by omega), _, rfl⟩
end Go.Proofs.Ytbgechfmbogbpaa
