/-
  slices.SortStableFunc on a row of fewer than twenty numbers; code's rarestFirst.
-/
import Derived.Test.YtbgechfmbogbpaaCodL
import Derived.Test.YtbgechfmbogbpaaCodMc
namespace Go.Proofs.Ytbgechfmbogbpaa
open Go.RowKit Cod

set_option maxRecDepth 100000 in
set_option maxHeartbeats 4000000 in
theorem sort_ints (R C q : Nat) (l : List Int) (key : Int → Int) (okd : Int → Prop) (w : World) (h : Seg w R 3 C (iC l)) (cap : Nat) (hcap : C = cap) (hl : 0 < l.length) (hl2 : l.length < 20) (hok : ∀ x ∈ l, okd x)
    (HC : ∀ W : World, w.grownBy W (some R) → ∀ a b : Int, okd a → okd b → Calls Try.prog 49 #[.int .i64 a, .int .i64 b, .pointer (some ⟨q, 0, none⟩)] W fun e w' => e = .returned (.int .i64 (cmpI (key a) (key b))) ∧ ∃ m, w' = W.drewN m) :
    Calls Try.prog 48 #[.slice (some ⟨R, 0, none⟩) l.length cap, .func (.func 49) #[] #[.pointer (some ⟨q, 0, none⟩)]] w
      fun e w' => e = .returned (.tuple #[]) ∧ Seg w' R 3 C (iC (insS 0 (fun a b => decide (key a < key b)) l)) ∧ w.grownBy w' (some R) := by
  have HI := Lib.hid (insert_ints R C q l key okd w h cap hcap hl (by omega) hok HC)
  obtain ⟨xs, hxs⟩ : ∃ xs, insS 0 (fun a b => decide (key a < key b)) l = xs := ⟨_, rfl⟩
  obtain ⟨n, hn⟩ : ∃ n, l.length = n := ⟨_, rfl⟩
  rw [hxs, hn] at HI
  rw [hxs, hn]
  rw [hn] at hl hl2
  have h20 : ¬ (20 : Int) ≤ (n : Int) := by omega
  have h20' : ¬ (20 : Int) < (n : Int) := by omega
  clear h HC hok hxs hn hcap
  have HS : Hid (Calls Try.prog 61 #[.slice (some ⟨R, 0, none⟩) n cap, .int .i64 (n : Int), .func (.func 49) #[] #[.pointer (some ⟨q, 0, none⟩)]] w
      fun e w' => e = .returned (.tuple #[]) ∧ Seg w' R 3 C (iC xs) ∧ w.grownBy w' (some R)) := Lib.hid (by
    go_enter Try.func61, Try.ntmps61
    go_wp2_with fail
    go_loopw [7, 8] (fun av bv wr => av = .int .i64 0 ∧ bv = .int .i64 20 ∧ wr = w) (fun _ _ _ => 0)
    case atStart => exact ⟨rfl, rfl, rfl⟩
    case round =>
      obtain ⟨rfl, rfl, rfl⟩ := hrel
      go_wp2_with fail
      refine HI.out.mono ?_
      rintro e w1 ⟨rfl, h1, h2⟩
      have H1 := Lib.hid h1
      have H2 := Lib.hid h2
      clear h1 h2
      go_wp2_with fail
      go_loopw [6] (fun av wr => av = .int .i64 20 ∧ wr = w1) (fun _ _ => 0)
      case atStart => exact ⟨rfl, rfl⟩
      case round =>
        obtain ⟨rfl, rfl⟩ := hrel
        go_wp2_with fail
        go_end0
        exact ⟨rfl, H1.out, H2.out⟩)
  go_enter Try.func48, Try.ntmps48
  go_wp2_with fail
  refine HS.out.mono ?_
  rintro e w1 ⟨rfl, h1, h2⟩
  have H1 := Lib.hid h1
  have H2 := Lib.hid h2
  clear h1 h2
  go_wp2_with fail
  go_end0
  exact ⟨rfl, H1.out, H2.out⟩

set_option maxRecDepth 100000 in
set_option maxHeartbeats 4000000 in
theorem rarest1_any (A : Option Addr) (cap q : Nat) (l : List Int) (W : World) (hA : IAt W A l) (hq : W.cell? ⟨q, 0, none⟩ = some (.slice A l.length cap)) (_hl : l.length ≤ 1000000) (a b : Nat) (ha : a < l.length) (hb : b < l.length) :
    Calls Try.prog 49 #[.int .i64 (a : Int), .int .i64 (b : Int), .pointer (some ⟨q, 0, none⟩)] W fun e w' => e = .returned (.int .i64 (cmpI (l.getD a 0) (l.getD b 0))) ∧ ∃ m, w' = W.drewN m := by
  obtain ⟨o1, f1, rfl, _, c0⟩ := hA a ha
  obtain ⟨o2, f2, e, _, c1⟩ := hA b hb
  injection e with e
  injection e with e1 e2
  subst e1 e2
  rw [gd l ha, gd l hb]
  obtain ⟨x, hx⟩ : ∃ x, l[a] = x := ⟨_, rfl⟩
  obtain ⟨y, hy⟩ : ∃ y, l[b] = y := ⟨_, rfl⟩
  rw [hx] at c0
  rw [hy] at c1
  rw [hx, hy]
  obtain ⟨n, hn⟩ : ∃ n, l.length = n := ⟨_, rfl⟩
  rw [hn] at ha hb hq _hl
  have ha' : (a : Int) < (n : Int) := by omega
  have hb' : (b : Int) < (n : Int) := by omega
  have HC := Lib.hid (fun W => compare_any x y W)
  clear hA hx hy hn
  go_enter Try.func49, Try.ntmps49
  go_wp2_with fail
  go_quiet ((go_at_call 50; exact Calls.quiet_of_same (same_q (HC.out _))))
  go_wp2_with fail
  go_ret
  exact ⟨rfl, _, rfl⟩
end Go.Proofs.Ytbgechfmbogbpaa
