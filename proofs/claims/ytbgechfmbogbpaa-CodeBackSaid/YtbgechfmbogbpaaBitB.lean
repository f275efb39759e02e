/-
  The walks of a reader of bit's: begin, next, Low, High, Align, Raw.
-/
import Derived.Test.YtbgechfmbogbpaaBitA
import Derived.Test.YtbgechfmbogbpaaBits
import Derived.Deep.RegionWith
import Derived.Deep.DeepCutAuto
import Derived.LoopTactic
import Derived.RegionTactic
import Derived.Outline
import Derived.IntWalk
import Derived.Laws.BitsAllLaws
namespace Go.Proofs.Ytbgechfmbogbpaa
open Go.RowKit Bt

/-- What a call leaves: the reader's block alone is written, and what it holds now. -/
def Now (T : TypeId) (w : World) (g : Nat) (s : ByteArray) (a : Nat) (o : Int) (w' : World) : Prop := w.grownBy w' (some g) ∧ Rd T w' g s a o
theorem Now.same {T : TypeId} {w : World} {g : Nat} {s : ByteArray} {a : Nat} {o : Int} (h : Rd T w g s a o) (n : Nat) : Now T w g s a o (w.drewN n) := ⟨grown_drewN (World.grownBy.refl _ _) n, h⟩
theorem Now.trans {T : TypeId} {w w1 w2 : World} {g : Nat} {s : ByteArray} {a b : Nat} {o p : Int} (h : Now T w g s a o w1) (k : Now T w1 g s b p w2) : Now T w g s b p w2 := ⟨h.1.trans k.1, k.2⟩
theorem Now.drewN {T : TypeId} {w w1 : World} {g : Nat} {s : ByteArray} {a : Nat} {o : Int} (h : Now T w g s a o w1) (n : Nat) : Now T w g s a o (w1.drewN n) := ⟨grown_drewN h.1 n, h.2⟩
theorem Now.at_ {T : TypeId} {w w1 : World} {g : Nat} {s : ByteArray} {a : Nat} {o : Int} (h : Now T w g s a o w1) (b : Nat) : Now T w g s b o (w1.setCell ⟨g, 1, none⟩ (.int .i64 (b : Int))) := ⟨grown_set h.1 1 _, h.2.set_ 1 _⟩
theorem Now.ord {T : TypeId} {w w1 : World} {g : Nat} {s : ByteArray} {a : Nat} {o : Int} (h : Now T w g s a o w1) (p : Int) : Now T w g s a p (w1.setCell ⟨g, 2, none⟩ (.int .i64 p)) := ⟨grown_set h.1 2 _, h.2.set_ 2 _⟩

set_option maxHeartbeats 400000 in
theorem next_any (g : Nat) (s : ByteArray) (a : Nat) (o : Int) (w : World) (h : Rd 70 w g s a o) (h1 : a < 8 * s.size) (hs : s.size ≤ 1000000000000000000) :
    Calls Try.prog 58 #[.pointer (some ⟨g, 0, none⟩)] w fun e w' => e = .returned (.int .i64 (bitN o s.data.toList a : Nat)) ∧ Now 70 w g s (a + 1) o w' := by
  have c0 : w.cell? ⟨g, 0, none⟩ = some (.string s) := (h.cell 0).trans rfl
  have c1 : w.cell? ⟨g, 1, none⟩ = some (.int .i64 (a : Int)) := (h.cell 1).trans rfl
  have c2 : w.cell? ⟨g, 2, none⟩ = some (.int .i64 o) := (h.cell 2).trans rfl
  have f1 : w.frozen? ⟨g, 1, none⟩ = false := h.frozen 1
  have H := Lib.hid h
  have d0 : (0 : Int) ≤ (a : Int) / 8 := by omega
  have d1 : (a : Int) / 8 < (s.size : Int) := by omega
  have d2 : ((a : Int) / 8).toNat = a / 8 := by omega
  have d3 : IntKind.i64.wrap ((a : Int) / 8) = (a : Int) / 8 := IntWalk.i64_in _ (by omega)
  clear h
  go_enter Try.func58, Try.ntmps58
  go_wp2_with fail
  go_quiet ((go_at_call 67; exact Calls.quiet_of_same (same_q (place_any _ _ _ (by omega)))))
  go_wp2
  go_ret
  exact ⟨ret_int (bit_and o s a (by omega)), (Now.same H.out nq).at_ (a + 1)⟩

set_option maxHeartbeats 1000000 in
theorem begin_any (g : Nat) (s : ByteArray) (a : Nat) (ord n o : Int) (w : World) (h : Rd 70 w g s a ord) (h1 : a ≤ 8 * s.size) (hs : s.size ≤ 1000000000000000000) :
    Calls Try.prog 57 #[.pointer (some ⟨g, 0, none⟩), .int .i64 n, .int .i64 o] w fun e w' => e = .returned (.int .i64 (rdE (8 * s.size) a ord n o)) ∧ Now 70 w g s a (rdOrd (8 * s.size) a ord n o) w' := by
  have c2 : w.cell? ⟨g, 2, none⟩ = some (.int .i64 ord) := (h.cell 2).trans rfl
  have f2 : w.frozen? ⟨g, 2, none⟩ = false := h.frozen 2
  have H := Lib.hid h
  clear h
  by_cases hb : bad ord n o = true
  · have R := Lib.hid (rd_bad (tot := 8 * s.size) (at_ := a) (l := []) hb)
    go_enter Try.func57, Try.ntmps57
    go_wp2_with (go_at_call 66; refine (fits_any _ _ _ _).mono ?_; rintro e w' ⟨rfl, rfl⟩)
    go_ret
    rw [R.out.1, R.out.2.2.2]
    exact ⟨rfl, Now.same H.out 0⟩
  · have hb' : bad ord n o = false := by simpa using hb
    clear hb
    have hn := bad_no hb'
    by_cases hl : ((8 * s.size : Nat) : Int) - a < n
    · have R := Lib.hid (rd_end (tot := 8 * s.size) (at_ := a) (l := []) hb' hl)
      go_enter Try.func57, Try.ntmps57
      go_wp2_with (first | (go_at_call 66; refine (fits_any _ _ _ _).mono ?_; rintro e w' ⟨rfl, rfl⟩) | (go_at_call 23; refine (rleft_any _ _ _ _ _ H.out h1 hs).mono ?_; rintro e w' ⟨rfl, k, rfl⟩))
      go_ret
      rw [R.out.1, R.out.2.2.2]
      exact ⟨rfl, Now.same H.out k⟩
    · have R := Lib.hid (rd_ok (tot := 8 * s.size) (at_ := a) (l := []) hb' (by omega))
      by_cases h0 : 0 < n
      · go_enter Try.func57, Try.ntmps57
        go_wp2_with (first | (go_at_call 66; refine (fits_any _ _ _ _).mono ?_; rintro e w' ⟨rfl, rfl⟩) | (go_at_call 23; refine (rleft_any _ _ _ _ _ H.out h1 hs).mono ?_; rintro e w' ⟨rfl, k, rfl⟩))
        go_ret
        rw [R.out.1, R.out.2.2.2, if_pos (by omega)]
        exact ⟨rfl, (Now.same H.out k).ord o⟩
      · go_enter Try.func57, Try.ntmps57
        go_wp2_with (first | (go_at_call 66; refine (fits_any _ _ _ _).mono ?_; rintro e w' ⟨rfl, rfl⟩) | (go_at_call 23; refine (rleft_any _ _ _ _ _ H.out h1 hs).mono ?_; rintro e w' ⟨rfl, k, rfl⟩))
        go_ret
        rw [R.out.1, R.out.2.2.2, if_neg (by omega)]
        exact ⟨rfl, Now.same H.out k⟩
end Go.Proofs.Ytbgechfmbogbpaa
