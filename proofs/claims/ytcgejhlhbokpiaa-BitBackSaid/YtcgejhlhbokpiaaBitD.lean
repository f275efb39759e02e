/-
  The walks of a reader of bit's: Align, Raw, From.
-/
import Derived.Test.YtcgejhlhbokpiaaBitC
namespace Go.Proofs.Ytcgejhlhbokpiaa
open Go.RowKit Bt

theorem rat_c (g : Nat) (s : ByteArray) (a x : Nat) (o : Int) (w : World) (h : Rd 51 w g s a o) (h1 : a ≤ 9000000000000000000) (hx : (a + 7) / 8 = x) :
    Calls Try.prog 19 #[.pointer (some ⟨g, 0, none⟩)] w fun e w' => e = .returned (.int .i64 (x : Int)) ∧ w = w' := by
  subst hx
  exact rat_any g s a o w h h1

set_option maxHeartbeats 400000 in
theorem ralign_any (g : Nat) (s : ByteArray) (a : Nat) (o : Int) (w : World) (h : Rd 51 w g s a o) (h1 : a ≤ 8000000000000000000) :
    Calls Try.prog 15 #[.pointer (some ⟨g, 0, none⟩)] w fun e w' => e = .returned (.tuple #[]) ∧ Now 51 w g s (alg a) 0 w' := by
  have c1 : w.cell? ⟨g, 1, none⟩ = some (.int .i64 (a : Int)) := (h.cell 1).trans rfl
  have f1 : w.frozen? ⟨g, 1, none⟩ = false := h.frozen 1
  have f2 : w.frozen? ⟨g, 2, none⟩ = false := h.frozen 2
  have c2 : w.cell? ⟨g, 2, none⟩ = some (.int .i64 o) := (h.cell 2).trans rfl
  have E := Lib.hid (show ((a : Int) + 7) / 8 * 8 = (alg a : Nat) by unfold alg; omega)
  have H := Lib.hid h
  clear h
  go_enter Try.func15, Try.ntmps15
  go_wp2_with (go_at_call 41; refine (whole_any _ _ (by omega) (by omega)).mono ?_; rintro e w' ⟨rfl, rfl⟩)
  go_end0
  rw [E.out]
  exact ⟨rfl, ((Now.same H.out 0).at_ (alg a)).ord 0⟩

def Rawed (T : TypeId) (w : World) (g : Nat) (s : ByteArray) (a : Nat) (o n : Int) (e : Ending) (w' : World) : Prop :=
  e = .returned (.tuple #[.string (rawB s a n), .int .i64 (rawE s.size a n)]) ∧ Now T w g s (rawAt s.size a n) o w'
theorem rawed_of {T : TypeId} {w w' : World} {g : Nat} {s B : ByteArray} {a b : Nat} {o n x : Int} (hE : rawE s.size a n = x) (hB : rawB s a n = B) (hA : rawAt s.size a n = b) (h : Now T w g s b o w') : Rawed T w g s a o n (.returned (.tuple #[.string B, .int .i64 x])) w' := by
  subst hE hB hA
  exact ⟨rfl, h⟩

set_option maxHeartbeats 1000000 in
theorem rraw_any (g : Nat) (s : ByteArray) (a : Nat) (o n : Int) (w : World) (h : Rd 51 w g s a o) (h1 : a ≤ 8 * s.size) (hs : s.size ≤ 1000000000000000000) :
    Calls Try.prog 17 #[.pointer (some ⟨g, 0, none⟩), .int .i64 n] w (Rawed 51 w g s a o n) := by
  have c0 : w.cell? ⟨g, 0, none⟩ = some (.string s) := (h.cell 0).trans rfl
  have c1 : w.cell? ⟨g, 1, none⟩ = some (.int .i64 (a : Int)) := (h.cell 1).trans rfl
  have f1 : w.frozen? ⟨g, 1, none⟩ = false := h.frozen 1
  have H := Lib.hid h
  clear h
  by_cases hn : n < 0
  · have R := Lib.hid (raw_bad (s := s) (at_ := a) (n := n) (Or.inl hn))
    go_enter Try.func17, Try.ntmps17
    go_wp2
    go_ret2
    exact rawed_of R.out.1 R.out.2.2 R.out.2.1 (Now.same H.out 0)
  · by_cases h8 : a % 8 = 0
    · obtain ⟨m, rfl⟩ := Int.eq_ofNat_of_zero_le (show 0 ≤ n by omega)
      obtain ⟨b, rfl⟩ : ∃ b, a = 8 * b := ⟨a / 8, by omega⟩
      have e8 : ((8 * b : Nat) : Int) % 8 = 0 := by omega
      have e8b : ((((8 * b : Nat) : Int) % 8) != 0) = false := by rw [e8]; rfl
      have HS := Lib.hid (show 8 * b / 8 = b by omega)
      have HT := Lib.hid (show (8 * b + 7) / 8 = b by omega)
      clear hn
      by_cases hl : ((s.size : Nat) : Int) - (b : Nat) < (m : Nat)
      · have R := Lib.hid (raw_end (s := s) (at_ := 8 * b) (n := (m : Int)) (by omega) h8 (by rw [HS.out]; exact hl))
        clear h8
        go_enter Try.func17, Try.ntmps17
        go_wp2_with (go_at_call 21; refine (rleft_any _ _ _ _ _ H.out h1 hs).mono ?_; rintro e w' ⟨rfl, k, rfl⟩)
        go_ret2
        exact rawed_of R.out.1 R.out.2.2 R.out.2.1 (Now.same H.out k)
      · have R := Lib.hid (raw_ok (s := s) (at_ := 8 * b) (n := (m : Int)) (by omega) h8 (by rw [HS.out]; omega))
        clear h8
        go_enter Try.func17, Try.ntmps17
        go_wp2_with fail
        refine (rleft_any _ _ _ _ _ H.out h1 hs).mono ?_
        rintro e w' ⟨rfl, k, rfl⟩
        go_wp2_with fail
        refine (rat_c _ _ _ b _ _ (Blk.drewN H.out k) (by omega) HT.out).mono ?_
        rintro e w' ⟨rfl, rfl⟩
        go_wp2
        go_ret2
        have e9 : (8 * (b : Int) + (m : Int) * 8) = ((8 * b + 8 * m : Nat) : Int) := by omega
        rw [e9]
        exact rawed_of R.out.1 (R.out.2.2.trans (by rw [HS.out]; rfl)) (R.out.2.1.trans rfl) ((Now.same H.out k).at_ _)
    · have R := Lib.hid (raw_bad (s := s) (at_ := a) (n := n) (Or.inr h8))
      have e8b : (((a : Int) % 8) != 0) = true := by rw [bne_iff_ne]; omega
      go_enter Try.func17, Try.ntmps17
      go_wp2
      go_ret2
      exact rawed_of R.out.1 R.out.2.2 R.out.2.1 (Now.same H.out 0)

set_option maxHeartbeats 400000 in
theorem rfrom_any (s : ByteArray) (w : World) :
    Calls Try.prog 9 #[.string s] w fun e w' => e = .returned (.pointer (some ⟨w.heap.size, 0, none⟩)) ∧ w.grownBy w' none ∧ Rd 51 w' w.heap.size s 0 0 ∧ w'.heap.size = w.heap.size + 1 := by
  go_enter Try.func9, Try.ntmps9
  go_wp2
  go_ret
  exact ⟨rfl, World.grownBy_alloc _ _ _, Blk.new _ _ _, by simp⟩
end Go.Proofs.Ytcgejhlhbokpiaa
