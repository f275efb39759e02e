/-
  The walks of the document's reader: At, Left, Align, Raw, From.
-/
import Derived.Test.YtcgejhlhbokpiaaBitD
namespace Go.Proofs.Ytcgejhlhbokpiaa
open Go.RowKit Bt

set_option maxHeartbeats 400000 in
theorem qat_any (g : Nat) (s : ByteArray) (a : Nat) (o : Int) (w : World) (h : Rd 53 w g s a o) (h1 : a ≤ 9000000000000000000) :
    Calls Try.prog 20 #[.pointer (some ⟨g, 0, none⟩)] w fun e w' => e = .returned (.int .i64 (((a + 7) / 8 : Nat) : Int)) ∧ w = w' := by
  have c1 : w.cell? ⟨g, 1, none⟩ = some (.int .i64 (a : Int)) := (h.cell 1).trans rfl
  have H := Lib.hid h
  clear h
  go_enter Try.func20, Try.ntmps20
  go_wp2
  go_ret
  exact ⟨ret_int (by omega), rfl⟩

set_option maxHeartbeats 400000 in
theorem qleft_any (g : Nat) (s : ByteArray) (a : Nat) (o : Int) (w : World) (h : Rd 53 w g s a o) (h1 : a ≤ 8 * s.size) (hs : s.size ≤ 1000000000000000000) :
    Calls Try.prog 22 #[.pointer (some ⟨g, 0, none⟩)] w fun e w' => e = .returned (.int .i64 (((8 * s.size : Nat) : Int) - a)) ∧ ∃ k, w' = w.drewN k := by
  have c0 : w.cell? ⟨g, 0, none⟩ = some (.string s) := (h.cell 0).trans rfl
  have c1 : w.cell? ⟨g, 1, none⟩ = some (.int .i64 (a : Int)) := (h.cell 1).trans rfl
  have H := Lib.hid h
  clear h
  go_enter Try.func22, Try.ntmps22
  go_wp2_with fail
  go_quiet (fail)
  go_wp2
  go_ret
  exact ⟨ret_int (by omega), _, rfl⟩

set_option maxHeartbeats 400000 in
theorem qalign_any (g : Nat) (s : ByteArray) (a : Nat) (o : Int) (w : World) (h : Rd 53 w g s a o) (h1 : a ≤ 8000000000000000000) :
    Calls Try.prog 16 #[.pointer (some ⟨g, 0, none⟩)] w fun e w' => e = .returned (.tuple #[]) ∧ Now 53 w g s (alg a) 0 w' := by
  have c1 : w.cell? ⟨g, 1, none⟩ = some (.int .i64 (a : Int)) := (h.cell 1).trans rfl
  have f1 : w.frozen? ⟨g, 1, none⟩ = false := h.frozen 1
  have f2 : w.frozen? ⟨g, 2, none⟩ = false := h.frozen 2
  have c2 : w.cell? ⟨g, 2, none⟩ = some (.int .i64 o) := (h.cell 2).trans rfl
  have E := Lib.hid (show ((a : Int) + 7) / 8 * 8 = (alg a : Nat) by unfold alg; omega)
  have H := Lib.hid h
  clear h
  go_enter Try.func16, Try.ntmps16
  go_wp2
  go_end0
  rw [E.out]
  exact ⟨rfl, ((Now.same H.out 0).at_ (alg a)).ord 0⟩

set_option maxHeartbeats 1000000 in
theorem qraw_any (g : Nat) (s : ByteArray) (a : Nat) (o n : Int) (w : World) (h : Rd 53 w g s a o) (h1 : a ≤ 8 * s.size) (hs : s.size ≤ 1000000000000000000) :
    Calls Try.prog 18 #[.pointer (some ⟨g, 0, none⟩), .int .i64 n] w (Rawed 53 w g s a o n) := by
  have c0 : w.cell? ⟨g, 0, none⟩ = some (.string s) := (h.cell 0).trans rfl
  have c1 : w.cell? ⟨g, 1, none⟩ = some (.int .i64 (a : Int)) := (h.cell 1).trans rfl
  have f1 : w.frozen? ⟨g, 1, none⟩ = false := h.frozen 1
  have H := Lib.hid h
  clear h
  by_cases hn : n < 0
  · have R := Lib.hid (raw_bad (s := s) (at_ := a) (n := n) (Or.inl hn))
    go_enter Try.func18, Try.ntmps18
    go_wp2
    go_ret2
    exact rawed_of R.out.1 R.out.2.2 R.out.2.1 (Now.same H.out 0)
  · by_cases h8 : a % 8 = 0
    · obtain ⟨m, rfl⟩ := Int.eq_ofNat_of_zero_le (show 0 ≤ n by omega)
      obtain ⟨b, hb⟩ : ∃ b, a = 8 * b := ⟨a / 8, by omega⟩
      have e8 : (a : Int) % 8 = 0 := by omega
      have e8b : (((a : Int) % 8) != 0) = false := by rw [e8]; rfl
      have d1 : (a : Int) / 8 = (b : Int) := by omega
      have d2 : IntKind.i64.wrap ((a : Int) / 8) = (b : Int) := by rw [d1]; exact IntWalk.i64_in _ (by omega)
      have HS := Lib.hid (show a / 8 = b by omega)
      have hbs : b ≤ s.size := by omega
      have HB := Lib.hid hb
      clear hn hb
      by_cases hl : ((s.size : Nat) : Int) - (b : Nat) < (m : Nat)
      · have R := Lib.hid (raw_end (s := s) (at_ := a) (n := (m : Int)) (by omega) h8 (by rw [HS.out]; exact hl))
        have d3 : IntKind.i64.wrap ((s.size : Int) - (b : Int)) = (s.size : Int) - (b : Int) := IntWalk.i64_in _ (by omega)
        clear h8
        go_enter Try.func18, Try.ntmps18
        go_wp2_with fail
        go_quiet (fail)
        go_wp2
        go_ret2
        exact rawed_of R.out.1 R.out.2.2 R.out.2.1 (Now.same H.out nq)
      · have R := Lib.hid (raw_ok (s := s) (at_ := a) (n := (m : Int)) (by omega) h8 (by rw [HS.out]; omega))
        have d3 : IntKind.i64.wrap ((s.size : Int) - (b : Int)) = (s.size : Int) - (b : Int) := IntWalk.i64_in _ (by omega)
        have HD := Lib.hid d1
        clear h8
        go_enter Try.func18, Try.ntmps18
        go_wp2_with fail
        go_quiet (fail)
        have x0 : ((a : Int) + 8 * (m : Int)) / 8 = (b : Int) + (m : Int) := by have := HB.out; omega
        have x1 : IntKind.i64.wrap (((a : Int) + 8 * (m : Int)) / 8) = (b : Int) + (m : Int) := by rw [x0]; exact IntWalk.i64_in _ (by omega)
        have x2 : IntKind.i64.wrap ((b : Int) + (m : Int) - (m : Int)) = (b : Int) := by rw [show (b : Int) + (m : Int) - (m : Int) = b by omega]; exact IntWalk.i64_in _ (by omega)
        have x3 : IntKind.i64.wrap (b : Int) = (b : Int) := IntWalk.i64_in _ (by omega)
        have x4 : (0 : Int) ≤ (b : Int) := by omega
        have x5 : (b : Int) ≤ (b : Int) + (m : Int) := by omega
        have x6 : (b : Int) + (m : Int) ≤ (s.size : Int) := by omega
        have X0 := Lib.hid x0
        clear x0
        go_wp2_with fail
        go_quiet (fail)
        clear x1 x2 x3
        go_wp2_with fail
        go_ret2
        have e9 : ((a : Int) + 8 * (m : Int)) = ((a + 8 * m : Nat) : Int) := by omega
        rw [e9]
        have hb := HB.out
        refine rawed_of R.out.1 (R.out.2.2.trans ?_) (R.out.2.1.trans rfl) (((Now.same H.out _).at_ _).drewN _)
        rw [show (a + 8 * m) / 8 = b + m by omega, show b + m - m = b by omega, HS.out]
        rfl
    · have R := Lib.hid (raw_bad (s := s) (at_ := a) (n := n) (Or.inr h8))
      have e8b : (((a : Int) % 8) != 0) = true := by rw [bne_iff_ne]; omega
      go_enter Try.func18, Try.ntmps18
      go_wp2
      go_ret2
      exact rawed_of R.out.1 R.out.2.2 R.out.2.1 (Now.same H.out 0)

set_option maxHeartbeats 400000 in
theorem qfrom_any (s : ByteArray) (w : World) :
    Calls Try.prog 10 #[.string s] w fun e w' => e = .returned (.pointer (some ⟨w.heap.size, 0, none⟩)) ∧ w.grownBy w' none ∧ Rd 53 w' w.heap.size s 0 0 ∧ w'.heap.size = w.heap.size + 1 := by
  go_enter Try.func10, Try.ntmps10
  go_wp2
  go_ret
  exact ⟨rfl, World.grownBy_alloc _ _ _, Blk.new _ _ _, by simp⟩
end Go.Proofs.Ytcgejhlhbokpiaa
