/-
  The document's number: what it reads, and nothing where the input is too short.
-/
import Derived.Test.YtkcnhdponcbjaaaHntQe
import Derived.Test.YtkcnhdponcbjaaaHntM
namespace Go.Proofs.Ytkcnhdponcbjaaa
open Go.RowKit Bt Hnt

/-- The document's reader behind calls on it, the world w before them. -/
def QowS (w : World) (g : Nat) (s : ByteArray) (r : RS) (w' : World) : Prop := Now 82 w g s r.1 r.2 w'
theorem tkV_any (s : ByteArray) (r : RS) (n : Int) : 0 ≤ tkV s r n ∧ tkV s r n < 16777216 := by
  by_cases h : tkE s r n = 0
  · have := tkV_in s r n h
    exact ⟨this.1, this.2.2⟩
  · have e : tkV s r n = 0 := by
      unfold tkE at h
      unfold tkV rdV
      rw [if_neg h]
    rw [e]
    decide
theorem QowS.below {W w : World} {g : Nat} {s : ByteArray} {r : RS} {B : Nat} (h : QowS W g s r w) (hB : B ≤ W.heap.size) (hg : B ≤ g) : Below B W w := Now.below (Below.refl _ _) h hB hg
theorem qhigh_s (g : Nat) (s : ByteArray) (r : RS) (n : Int) (W w : World) (hs : s.size ≤ 1000000) (h1 : r.1 ≤ 8 * s.size) (h : QowS W g s r w) :
    Calls Try.prog 57 #[.pointer (some ⟨g, 0, none⟩), .int .i64 n] w fun e w' => e = .returned (.tuple #[.int .i64 (tkV s r n), .int .i64 (tkE s r n)]) ∧ QowS W g s (tkS s r n) w' := by
  refine (qhigh_c g s r.1 r.2 n _ _ _ _ w h.2 h1 (by omega) rfl rfl rfl rfl).mono ?_
  rintro e w' ⟨h2, h3⟩
  exact ⟨h2, Now.trans h h3⟩
theorem qalign_s (g : Nat) (s : ByteArray) (r : RS) (W w : World) (hs : s.size ≤ 1000000) (h1 : r.1 ≤ 8 * s.size) (h : QowS W g s r w) :
    Calls Try.prog 34 #[.pointer (some ⟨g, 0, none⟩)] w fun e w' => e = .returned (.tuple #[]) ∧ QowS W g s (alg r.1, 0) w' := by
  refine (qalign_any g s r.1 r.2 w h.2 (by omega)).mono ?_
  rintro e w' ⟨h2, h3⟩
  exact ⟨h2, Now.trans h h3⟩

set_option maxRecDepth 100000 in
set_option maxHeartbeats 2000000 in
theorem num_small (g : Nat) (s : ByteArray) (r : RS) (n : Int) (W w : World) (hs : s.size ≤ 1000000) (h1 : r.1 ≤ 8 * s.size) (hn : n ≤ 24) (h : QowS W g s r w) :
    Calls Try.prog 33 #[.pointer (some ⟨g, 0, none⟩), .int .i64 n] w fun e w' => e = .returned (.int .i64 (tkV s r n)) ∧ QowS W g s (tkS s r n) w' := by
  have H := Lib.hid (qhigh_s g s r n W w hs h1 h)
  have hn' : ¬ 24 < n := by omega
  clear h h1 hs hn
  go_enter Try.func33, Try.ntmps33
  go_wp2_with fail
  refine H.out.mono ?_
  rintro e w1 ⟨rfl, hq⟩
  have HQ := Lib.hid hq
  clear hq
  go_wp2_with fail
  go_ret
  exact ⟨rfl, HQ.out⟩
def longV2 (s : ByteArray) (r : RS) : Int := 65536 * tkV s r 16 + tkV s (tkS s r 16) 16
def longS2 (s : ByteArray) (r : RS) : RS := tkS s (tkS s r 16) 16

set_option maxRecDepth 100000 in
set_option maxHeartbeats 2000000 in
theorem num_long (g : Nat) (s : ByteArray) (r : RS) (W w : World) (hs : s.size ≤ 1000000) (h1 : r.1 ≤ 8 * s.size) (h : QowS W g s r w) :
    Calls Try.prog 33 #[.pointer (some ⟨g, 0, none⟩), .int .i64 32] w fun e w' => e = .returned (.int .i64 (longV2 s r)) ∧ QowS W g s (longS2 s r) w' := by
  have H1 := Lib.hid (fun (x : World) (hq : QowS W g s r x) => num_small g s r 16 W x hs h1 (by omega) hq)
  have H2 := Lib.hid (fun (x : World) (hq : QowS W g s (tkS s r 16) x) => num_small g s (tkS s r 16) 16 W x hs (tkS_le h1) (by omega) hq)
  obtain ⟨u0, u1⟩ := tkV_any s r 16
  obtain ⟨v0, v1⟩ := tkV_any s (tkS s r 16) 16
  unfold longV2 longS2
  obtain ⟨u, hu⟩ : ∃ u, tkV s r 16 = u := ⟨_, rfl⟩
  obtain ⟨v, hv⟩ : ∃ u, tkV s (tkS s r 16) 16 = u := ⟨_, rfl⟩
  rw [hu] at H1 u0 u1 ⊢
  rw [hv] at H2 v0 v1 ⊢
  have HQ := Lib.hid h
  clear hu hv h h1 hs
  go_enter Try.func33, Try.ntmps33
  go_wp2_with fail
  refine (H1.out w HQ.out).mono ?_
  rintro e w1 ⟨rfl, hq⟩
  have HQ1 := Lib.hid hq
  clear hq
  go_wp2_with fail
  refine (H2.out w1 HQ1.out).mono ?_
  rintro e w2 ⟨rfl, hq⟩
  have HQ2 := Lib.hid hq
  clear hq
  go_wp2_with fail
  go_ret
  exact ⟨rfl, HQ2.out⟩
end Go.Proofs.Ytkcnhdponcbjaaa
