/-
  The document's decoders at any bound.
-/
import Derived.Test.YthioafndepkhoaaAscT
namespace Go.Proofs.Ythioafndepkhoaa
open Go.RowKit Oct Asc Go.Shelf

set_option maxRecDepth 100000 in
set_option maxHeartbeats 4000000 in
theorem unhexR_all (s : ByteArray) (n : Int) (w : World) (hs : s.size ≤ 3000) :
    Calls Try.prog 6 #[.string s, .int .i64 n] w (DecodedIs (unhexF s n) w) := by
  by_cases hn : n < 0
  · have HF := Lib.hid (show unhexF s n = (1, []) by unfold unhexF; rw [if_pos hn])
    unfold DecodedIs
    go_enter Try.func6, Try.ntmps6
    go_wp2_with fail
    go_ret2
    exact ⟨by rw [HF.out]; rfl, Below.refl _ _⟩
  · exact unhexR_in s n _ (unhexF s n) w hs (by omega) rfl (by unfold unhexF; rw [if_neg hn])

set_option maxRecDepth 100000 in
set_option maxHeartbeats 4000000 in
theorem unfiveR_all (s : ByteArray) (n : Int) (w : World) (hs : s.size ≤ 4000) :
    Calls Try.prog 8 #[.string s, .int .i64 n] w (DecodedIs (unfiveF s n) w) := by
  by_cases hn : n < 0
  · have HF := Lib.hid (show unfiveF s n = (1, []) by unfold unfiveF; rw [if_pos hn])
    unfold DecodedIs
    go_enter Try.func8, Try.ntmps8
    go_wp2_with fail
    go_ret2
    exact ⟨by rw [HF.out]; rfl, Below.refl _ _⟩
  · exact unfiveR_in s n _ (unfiveF s n) w hs (by omega) rfl (by unfold unfiveF; rw [if_neg hn])

set_option maxRecDepth 100000 in
set_option maxHeartbeats 4000000 in
theorem unrunR_all (s : ByteArray) (n : Int) (w : World) (hs : s.size ≤ 4000) :
    Calls Try.prog 10 #[.string s, .int .i64 n] w (DecodedIs (unrunF s n) w) := by
  by_cases hn : n < 0
  · have HF := Lib.hid (show unrunF s n = (1, []) by unfold unrunF; rw [if_pos hn])
    unfold DecodedIs
    go_enter Try.func10, Try.ntmps10
    go_wp2_with fail
    go_ret2
    exact ⟨by rw [HF.out]; rfl, Below.refl _ _⟩
  · exact unrunR_in s n _ (unrunF s n) w hs (by omega) rfl (by unfold unrunF; rw [if_neg hn])
end Go.Proofs.Ythioafndepkhoaa
