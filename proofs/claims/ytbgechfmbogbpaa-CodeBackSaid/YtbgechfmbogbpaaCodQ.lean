/-
  slices' insertion sort on a short row of coins.
-/
import Derived.Test.YtbgechfmbogbpaaCodP
import Derived.StillTailTactics
namespace Go.Proofs.Ytbgechfmbogbpaa
open Go.RowKit Cod

set_option maxRecDepth 100000 in
set_option maxHeartbeats 4000000 in
theorem chosen1_any (a b : C2) (w : World) : Calls Try.prog 54 #[.agg #[.int .i64 a.1, .bool a.2], .agg #[.int .i64 b.1, .bool b.2]] w fun e w' => e = .returned (.int .i64 (cmpI a.1 b.1)) ∧ Below w.heap.size w w' := by
  obtain ⟨a1, a2⟩ := a
  obtain ⟨b1, b2⟩ := b
  have HC := Lib.hid (fun W => compare_any a1 b1 W)
  have HB := Lib.hid (((Below.refl w.heap.size w).alloc (Nat.le_refl _) (.cells #[.int .i64 a1, .bool a2] 85)).alloc (by simp) (.cells #[.int .i64 b1, .bool b2] 85))
  go_enter Try.func54, Try.ntmps54
  go_wp2_with fail
  refine (HC.out _).mono ?_
  rintro e w1 ⟨rfl, rfl⟩
  go_wp2_with fail
  go_ret
  exact ⟨rfl, HB.out⟩

def dC : C2 := (0, false)
theorem kC_set2 (l : List C2) (j : Nat) (h : j < l.length) (c : C2) : ((kC l).set (j * 2) (.int .i64 c.1)).set (j * 2 + 1) (.bool c.2) = kC (l.set j c) := by
  induction l generalizing j with
  | nil => simp at h
  | cons d l ih =>
    cases j with
    | zero => rw [kC_cons]; simp [kC]
    | succ j =>
      rw [List.set_cons_succ, kC_cons, kC_cons, show (j + 1) * 2 = j * 2 + 1 + 1 by omega, List.set_cons_succ, List.set_cons_succ, List.set_cons_succ, List.set_cons_succ, ih j (by simpa using h)]
theorem seg_kat {w : World} {R C : Nat} {l : List C2} (h : Seg w R 85 C (kC l)) (j : Nat) (hj : j < l.length) :
    w.cell? ⟨R, j * 2, none⟩ = some (.int .i64 (l.getD j dC).1) ∧ w.cell? ⟨R, j * 2 + 1, none⟩ = some (.bool (l.getD j dC).2) := by
  obtain ⟨g0, g1⟩ := kC_at l j hj
  rw [show l.getD j dC = l[j] by simp [List.getD, hj]]
  have h0 : j * 2 < (kC l).length := by rw [kC_len]; omega
  have h1 : j * 2 + 1 < (kC l).length := by rw [kC_len]; omega
  refine ⟨(h.cell _ h0).trans ?_, (h.cell _ h1).trans ?_⟩
  · rw [List.getElem?_eq_getElem h0] at g0; exact g0
  · rw [List.getElem?_eq_getElem h1] at g1; exact g1
theorem seg_kset {w : World} {R C : Nat} {l : List C2} (h : Seg w R 85 C (kC l)) (j : Nat) (hj : j < l.length) (c : C2) :
    Seg ((w.setCell ⟨R, j * 2, none⟩ (.int .i64 c.1)).setCell ⟨R, j * 2 + 1, none⟩ (.bool c.2)) R 85 C (kC (l.set j c)) := by
  rw [← kC_set2 l j hj c]
  exact (h.set_ _ _).set_ _ _

set_option maxRecDepth 100000 in
set_option maxHeartbeats 4000000 in
theorem insert_coins (R C : Nat) (l : List C2) (w : World) (h : Seg w R 85 C (kC l)) (cap : Nat) (hl : 0 < l.length) (hl2 : l.length ≤ 1000) :
    Calls Try.prog 71 #[.slice (some ⟨R, 0, none⟩) l.length cap, .int .i64 0, .int .i64 (l.length : Int), .func (.func 54) #[] #[]] w
      fun e w' => e = .returned (.tuple #[]) ∧ Seg w' R 85 C (kC (insS dC (fun a b => decide (a.1 < b.1)) l)) ∧ w.grownBy w' (some R) := by
  obtain ⟨lt, hlt⟩ : ∃ lt : C2 → C2 → Bool, (fun a b => decide (a.1 < b.1)) = lt := ⟨_, rfl⟩
  have HLT := Lib.hid (show ∀ a b, lt a b = decide (a.1 < b.1) from fun a b => by rw [← hlt])
  rw [hlt]
  clear hlt
  have HLEN := Lib.hid (fun k => insK_len dC lt l k)
  obtain ⟨n, hn⟩ : ∃ n, l.length = n := ⟨_, rfl⟩
  have HS := Lib.hid (show insS dC lt l = insK dC lt l (n - 1) by unfold insS; rw [hn])
  rw [HS.out]
  have HS0 := Lib.hid (show Seg w R 85 C (kC (insK dC lt l 0)) from h)
  have HG0 := Lib.hid (show w.grownBy w (some R) from World.grownBy.refl _ _)
  have HRw := Lib.hid h.lt
  rw [hn] at HLEN hl hl2 ⊢
  have hnb : (n : Int) ≤ 1000 := by omega
  have hnp : (0 : Int) < (n : Int) := by omega
  clear h hn
  go_enter Try.func71, Try.ntmps71
  go_wp2_with fail
  go_loopw [8] (fun iv wr => ∃ k : Nat, 1 ≤ k ∧ k ≤ n ∧ iv = .int .i64 (k : Int) ∧ Hid (Seg wr R 85 C (kC (insK dC lt l (k - 1)))) ∧ Hid (w.grownBy wr (some R))) (fun iv _ => n - (intOf iv).toNat)
  case atStart => exact ⟨1, by omega, by omega, rfl, HS0, HG0⟩
  case round =>
    clear HS0 HG0
    obtain ⟨k, hk1, hk, rfl, HSg, HG⟩ := hrel
    by_cases hlt : k < n
    · have hik : (k : Int) < (n : Int) := by omega
      have hik0 : (0 : Int) ≤ (k : Int) := by omega
      obtain ⟨m0, hm0⟩ : ∃ m0, insK dC lt l (k - 1) = m0 := ⟨_, rfl⟩
      have HT0 := Lib.hid (show sink dC lt m0 k = insK dC lt l k ∧ m0.length = n from by
        rw [← hm0]
        refine ⟨?_, HLEN.out _⟩
        obtain ⟨j, rfl⟩ : ∃ j, k = j + 1 := ⟨k - 1, by omega⟩
        rfl)
      rw [hm0] at HSg
      clear hm0
      go_wp2_with fail
      obtain ⟨wo, hwo⟩ : ∃ wo, wo = wr := ⟨_, rfl⟩
      clear hwo
      go_loopw [9] (fun jv wr => ∃ (j : Nat) (m : List C2), j ≤ k ∧ jv = .int .i64 (j : Int) ∧ Hid (Seg wr R 85 C (kC m)) ∧ Hid (w.grownBy wr (some R)) ∧ Hid (sink dC lt m j = insK dC lt l k ∧ m.length = n)) (fun jv _ => (intOf jv).toNat)
      case atStart => exact ⟨k, m0, by omega, rfl, HSg, HG, HT0⟩
      case round =>
        clear HSg HG HT0
        obtain ⟨j, m, hj, rfl, HSg, HG, HT⟩ := hrel
        obtain ⟨hT1, hT2⟩ := HT.out
        by_cases hj0 : j = 0
        · subst hj0
          have HE := Lib.hid (show Seg wr R 85 C (kC (insK dC lt l k)) by rw [← hT1]; exact HSg.out)
          have dj : decide ((0 : Int) < ((0 : Nat) : Int)) = false := rfl
          clear hT1 hT2
          rw [show ((0 : Nat) : Int) = 0 from rfl] at dj
          rw [show ((0 : Nat) : Int) = 0 from rfl]
          go_wp2_with fail
          go_quiet (fail)
          go_wp2_with fail
          go_roundw
          case rel => exact ⟨k + 1, by omega, by omega, by go_num, Lib.hid HE.out, Lib.hid (grown_drewN HG.out _)⟩
          case measure => simp [intOf]; omega
        · obtain ⟨i, rfl⟩ : ∃ i, j = i + 1 := ⟨j - 1, by omega⟩
          have hi1 : i + 1 < m.length := by omega
          obtain ⟨c1, c1'⟩ := seg_kat HSg.out (i + 1) hi1
          obtain ⟨c0, c0'⟩ := seg_kat HSg.out i (by omega)
          have HFZ := Lib.hid (fun j => HSg.out.frozen j)
          have hT4 : (if lt (m.getD (i + 1) dC) (m.getD i dC) then sink dC lt ((m.set (i + 1) (m.getD i dC)).set i (m.getD (i + 1) dC)) i else m) = insK dC lt l k := hT1
          rw [HLT.out] at hT4
          obtain ⟨b, hb⟩ : ∃ b, m.getD (i + 1) dC = b := ⟨_, rfl⟩
          obtain ⟨a, ha⟩ : ∃ a, m.getD i dC = a := ⟨_, rfl⟩
          rw [hb] at c1 c1' hT4
          rw [ha] at c0 c0' hT4
          obtain ⟨b1, b2⟩ := b
          obtain ⟨a1, a2⟩ := a
          have HCl := Lib.hid (fun W : World => chosen1_any (b1, b2) (a1, a2) W)
          have hcl := cmp_lt b1 a1
          obtain ⟨z, hz⟩ : ∃ z, cmpI b1 a1 = z := ⟨_, rfl⟩
          have HZ := Lib.hid hz
          rw [show cmpI (b1, b2).1 (a1, a2).1 = z from hz] at HCl
          rw [hz] at hcl
          have hji : (0 : Int) < (i : Int) + 1 := by omega
          have hjn : (i : Int) + 1 < (n : Int) := by omega
          have hji0 : (0 : Int) ≤ (i : Int) := by omega
          rw [show ((i + 1 : Nat) : Int) = (i : Int) + 1 by push_cast; rfl]
          clear hz hb ha
          by_cases hlt2 : b1 < a1
          · rw [decide_eq_true hlt2] at hcl
            rw [decide_eq_true (show (b1, b2).1 < (a1, a2).1 from hlt2), if_pos rfl] at hT4
            have hz0 : z < 0 := of_decide_eq_true hcl
            have HK := Lib.hid (show sink dC lt ((m.set (i + 1) (a1, a2)).set i (b1, b2)) i = insK dC lt l k ∧ ((m.set (i + 1) (a1, a2)).set i (b1, b2)).length = n from ⟨hT4, by simpa using hT2⟩)
            clear hT1 hT2 hT4 hcl hlt2
            go_wp2_with fail
            go_still_tail 14, (by kernel_rfl)
            have d0 : IntKind.i64.wrap (i : Int) = (i : Int) := IntWalk.i64_in _ (by omega)
            have d1 : (0 : Int) ≤ (i : Int) + 1 := by omega
            have d2 : (i : Int) < (n : Int) := by omega
            have d3 : ((i : Int) + 1).toNat = i + 1 := by omega
            obtain ⟨wd, hwd⟩ : ∃ wd, ({ heap := wr.heap, tape := wr.tape, drawn := wr.drawn + 1, os := wr.os, output := wr.output } : World) = wd := ⟨_, rfl⟩
            have e1 : wd.cell? ⟨R, (i + 1) * 2, none⟩ = some (.int .i64 b1) := by rw [← hwd]; exact c1
            have e1' : wd.cell? ⟨R, (i + 1) * 2 + 1, none⟩ = some (.bool b2) := by rw [← hwd]; exact c1'
            have e0 : wd.cell? ⟨R, i * 2, none⟩ = some (.int .i64 a1) := by rw [← hwd]; exact c0
            have e0' : wd.cell? ⟨R, i * 2 + 1, none⟩ = some (.bool a2) := by rw [← hwd]; exact c0'
            have HSd := Lib.hid (show Seg wd R 85 C (kC m) by rw [← hwd]; exact HSg.out)
            have HGd := Lib.hid (show w.grownBy wd (some R) by rw [← hwd]; exact grown_drewN HG.out 1)
            rw [hwd]
            clear hwd c1 c1' c0 c0'
            repeat still_step
            refine wpStill_nil ?_
            go_wp2_with fail
            refine (HCl.out _).mono ?_
            rintro e w1 ⟨rfl, hb⟩
            have hR1 : R < wd.heap.size := HSd.out.lt
            have HS1 := Lib.hid (HSd.out.below hb hR1)
            have HG1 := Lib.hid (show w.grownBy w1 (some R) from HGd.out.trans ⟨hb.os, hb.tape, hb.output, hb.size, fun k hk _ => hb.block k hk⟩)
            have g1 : w1.cell? ⟨R, (i + 1) * 2, none⟩ = some (.int .i64 b1) := (hb.cell (p := ⟨R, _, none⟩) hR1).trans e1
            have g1' : w1.cell? ⟨R, (i + 1) * 2 + 1, none⟩ = some (.bool b2) := (hb.cell (p := ⟨R, _, none⟩) hR1).trans e1'
            have g0 : w1.cell? ⟨R, i * 2, none⟩ = some (.int .i64 a1) := (hb.cell (p := ⟨R, _, none⟩) hR1).trans e0
            have g0' : w1.cell? ⟨R, i * 2 + 1, none⟩ = some (.bool a2) := (hb.cell (p := ⟨R, _, none⟩) hR1).trans e0'
            have f1 := HS1.out.frozen ((i + 1) * 2)
            have f1' := HS1.out.frozen ((i + 1) * 2 + 1)
            have f0 := HS1.out.frozen (i * 2)
            have f0' := HS1.out.frozen (i * 2 + 1)
            have HS2 := Lib.hid (seg_kset (seg_kset HS1.out (i + 1) hi1 (a1, a2)) i (by rw [List.length_set]; omega) (b1, b2))
            have HG2 := Lib.hid (grown_set (grown_set (grown_set (grown_set HG1.out ((i + 1) * 2) (.int .i64 a1)) ((i + 1) * 2 + 1) (.bool a2)) (i * 2) (.int .i64 b1)) (i * 2 + 1) (.bool b2))
            clear hb e1 e1' e0 e0' hR1
            go_wp2_with fail
            go_region
            go_wp2_with fail
            go_roundw
            case rel => exact ⟨i, _, by omega, rfl, Lib.hid HS2.out, Lib.hid ⟨HG2.out.os, HG2.out.tape, HG2.out.output, HG2.out.size, HG2.out.block⟩, HK⟩
            case measure => simp [intOf]
          · rw [decide_eq_false hlt2] at hcl
            rw [decide_eq_false (show ¬ (b1, b2).1 < (a1, a2).1 from hlt2), if_neg (by decide)] at hT4
            have hz0 : ¬ z < 0 := of_decide_eq_false hcl
            have HE0 := Lib.hid (show kC m = kC (insK dC lt l k) by rw [hT4])
            clear hT1 hT2 hT4 hcl hlt2
            go_wp2_with fail
            go_still_tail 14, (by kernel_rfl)
            have d0 : IntKind.i64.wrap (i : Int) = (i : Int) := IntWalk.i64_in _ (by omega)
            have d1 : (0 : Int) ≤ (i : Int) + 1 := by omega
            have d2 : (i : Int) < (n : Int) := by omega
            have d3 : ((i : Int) + 1).toNat = i + 1 := by omega
            obtain ⟨wd, hwd⟩ : ∃ wd, ({ heap := wr.heap, tape := wr.tape, drawn := wr.drawn + 1, os := wr.os, output := wr.output } : World) = wd := ⟨_, rfl⟩
            have e1 : wd.cell? ⟨R, (i + 1) * 2, none⟩ = some (.int .i64 b1) := by rw [← hwd]; exact c1
            have e1' : wd.cell? ⟨R, (i + 1) * 2 + 1, none⟩ = some (.bool b2) := by rw [← hwd]; exact c1'
            have e0 : wd.cell? ⟨R, i * 2, none⟩ = some (.int .i64 a1) := by rw [← hwd]; exact c0
            have e0' : wd.cell? ⟨R, i * 2 + 1, none⟩ = some (.bool a2) := by rw [← hwd]; exact c0'
            have HSd := Lib.hid (show Seg wd R 85 C (kC m) by rw [← hwd]; exact HSg.out)
            have HGd := Lib.hid (show w.grownBy wd (some R) by rw [← hwd]; exact grown_drewN HG.out 1)
            rw [hwd]
            clear hwd c1 c1' c0 c0'
            repeat still_step
            refine wpStill_nil ?_
            go_wp2_with fail
            refine (HCl.out _).mono ?_
            rintro e w1 ⟨rfl, hb⟩
            have hR1 : R < wd.heap.size := HSd.out.lt
            have HS1 := Lib.hid (show Seg w1 R 85 C (kC (insK dC lt l k)) by rw [← HE0.out]; exact HSd.out.below hb hR1)
            have HG1 := Lib.hid (show w.grownBy w1 (some R) from HGd.out.trans ⟨hb.os, hb.tape, hb.output, hb.size, fun k hk _ => hb.block k hk⟩)
            clear hb e1 e1' e0 e0' hR1
            go_wp2_with fail
            go_roundw
            case rel => exact ⟨k + 1, by omega, by omega, by go_num, Lib.hid HS1.out, HG1⟩
            case measure => simp [intOf]; omega
    · obtain rfl : k = n := by omega
      have HE := HSg
      clear HSg
      go_wp2_with fail
      go_end0
      exact ⟨rfl, HE.out, HG.out⟩

set_option maxRecDepth 100000 in
set_option maxHeartbeats 4000000 in
theorem sort_coins (R C : Nat) (l : List C2) (w : World) (h : Seg w R 85 C (kC l)) (cap : Nat) (hl : 0 < l.length) (hl2 : l.length < 20) :
    Calls Try.prog 53 #[.slice (some ⟨R, 0, none⟩) l.length cap, .func (.func 54) #[] #[]] w
      fun e w' => e = .returned (.tuple #[]) ∧ Seg w' R 85 C (kC (insS dC (fun a b => decide (a.1 < b.1)) l)) ∧ w.grownBy w' (some R) := by
  have HI := Lib.hid (insert_coins R C l w h cap hl (by omega))
  obtain ⟨xs, hxs⟩ : ∃ xs, insS dC (fun a b => decide (a.1 < b.1)) l = xs := ⟨_, rfl⟩
  obtain ⟨n, hn⟩ : ∃ n, l.length = n := ⟨_, rfl⟩
  rw [hxs, hn] at HI
  rw [hxs, hn]
  rw [hn] at hl hl2
  have h20 : ¬ (20 : Int) ≤ (n : Int) := by omega
  have h20' : ¬ (20 : Int) < (n : Int) := by omega
  clear h hxs hn
  have HS : Hid (Calls Try.prog 64 #[.slice (some ⟨R, 0, none⟩) n cap, .int .i64 (n : Int), .func (.func 54) #[] #[]] w
      fun e w' => e = .returned (.tuple #[]) ∧ Seg w' R 85 C (kC xs) ∧ w.grownBy w' (some R)) := Lib.hid (by
    go_enter Try.func64, Try.ntmps64
    go_wp2_with fail
    go_loopw [7, 8] (fun av bv wr => av = .int .i64 0 ∧ bv = .int .i64 20 ∧ wr = w) (fun _ _ _ => 0)
    case atStart => exact ⟨rfl, rfl, rfl⟩
    case round =>
      obtain ⟨rfl, rfl, rfl⟩ := hrel
      go_wp2_with fail
      refine HI.out.mono ?_
      rintro e w1 ⟨rfl, h1, h2⟩
      have H1 := Lib.hid h1
      have H2 := Lib.hid h2
      clear h1 h2
      go_wp2_with fail
      go_loopw [6] (fun av wr => av = .int .i64 20 ∧ wr = w1) (fun _ _ => 0)
      case atStart => exact ⟨rfl, rfl⟩
      case round =>
        obtain ⟨rfl, rfl⟩ := hrel
        go_wp2_with fail
        go_end0
        exact ⟨rfl, H1.out, H2.out⟩)
  go_enter Try.func53, Try.ntmps53
  go_wp2_with fail
  refine HS.out.mono ?_
  rintro e w1 ⟨rfl, h1, h2⟩
  have H1 := Lib.hid h1
  have H2 := Lib.hid h2
  clear h1 h2
  go_wp2_with fail
  go_end0
  exact ⟨rfl, H1.out, H2.out⟩
end Go.Proofs.Ytbgechfmbogbpaa
