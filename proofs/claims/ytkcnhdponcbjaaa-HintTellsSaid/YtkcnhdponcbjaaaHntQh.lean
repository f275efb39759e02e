/-
  The document's Read.
-/
import Derived.Test.YtkcnhdponcbjaaaHntQg
import Derived.Test.YtkcnhdponcbjaaaHntL
import Derived.Deep.RegionHeld3
namespace Go.Proofs.Ytkcnhdponcbjaaa
open Go.RowKit Bt Hnt

/-- The document's reader g at a place. -/
def RdQ (w : World) (g : Nat) (s : ByteArray) (r : RS) : Prop := Rd 82 w g s r.1 r.2
theorem RdQ.go {w w' : World} {g : Nat} {s : ByteArray} {r r' : RS} (_h : RdQ w g s r) (q : QowS w g s r' w') : RdQ w' g s r' := q.2
theorem RdQ.now {w : World} {g : Nat} {s : ByteArray} {r : RS} (h : RdQ w g s r) : QowS w g s r w := Now.same h 0
theorem rstep {N g : Nat} {w w1 w2 : World} {s : ByteArray} {r : RS} (hN : N ≤ g) (h : Below N w w1 ∧ N ≤ w1.heap.size) (q : QowS w1 g s r w2) : Below N w w2 ∧ N ≤ w2.heap.size :=
  ⟨h.1.trans (q.below h.2 hN), Nat.le_trans h.2 q.1.size⟩
theorem colQ_snoc {s : ByteArray} {c : Nat} {x w : Int} : ∀ (m k : Nat) (rows : List H3) (r : RS), colQ s c x w (m + 1) k rows r = ((colQ s c x w m k rows r).1.set (k + m) (setC c (x + tkV s (colQ s c x w m k rows r).2 w) ((colQ s c x w m k rows r).1.getD (k + m) (0, 0, 0))), tkS s (colQ s c x w m k rows r).2 w)
  | 0, _, _, _ => rfl
  | m + 1, k, rows, r => by
    have h := colQ_snoc (s := s) (c := c) (x := x) (w := w) m (k + 1) (rows.set k (setC c (x + tkV s r w) (rows.getD k (0, 0, 0)))) (tkS s r w)
    rw [show k + 1 + m = k + (m + 1) by omega] at h
    exact h

set_option maxRecDepth 100000 in
set_option maxHeartbeats 8000000 in
theorem qread_any (s : ByteArray) (w : World) (hs : s.size ≤ 1000000) :
    Calls Try.prog 12 #[.string s] w fun e w' => (∃ A cap, e = .returned (.tuple #[.slice A (readL s).length cap, .int .i64 (readE s)]) ∧ HAt w' A (readL s)) ∧ Below w.heap.size w w' := by
  obtain ⟨N, hN⟩ : ∃ N, w.heap.size = N := ⟨_, rfl⟩
  have HS := Lib.hid hN
  have HF := Lib.hid (qfrom_any s w)
  obtain ⟨E, hE⟩ : ∃ E, readE s = E := ⟨_, rfl⟩
  obtain ⟨L, hL⟩ : ∃ L, readL s = L := ⟨_, rfl⟩
  have HEq := Lib.hid (show readQ s = (E, L) by rw [readQ_eq, hE, hL])
  rw [hE, hL]
  clear hE hL
  have HL := Lib.hid (fun (x : World) (r : RS) (h1 : r.1 ≤ 8 * s.size) (h : RdQ x N s r) => num_long N s r x x hs h1 h.now)
  have HSm := Lib.hid (fun (x : World) (r : RS) (m : Int) (h1 : r.1 ≤ 8 * s.size) (hm : m ≤ 24) (h : RdQ x N s r) => num_small N s r m x x hs h1 hm h.now)
  have HAl := Lib.hid (fun (x : World) (r : RS) (h1 : r.1 ≤ 8 * s.size) (h : RdQ x N s r) => qalign_s N s r x x hs h1 h.now)
  rw [hN] at HF ⊢
  obtain ⟨r1, hr1⟩ : ∃ r, longS2 s (0, 0) = r := ⟨_, rfl⟩
  obtain ⟨r2, hr2⟩ : ∃ r, longS2 s r1 = r := ⟨_, rfl⟩
  obtain ⟨r3, hr3⟩ : ∃ r, longS2 s r2 = r := ⟨_, rfl⟩
  obtain ⟨r4, hr4⟩ : ∃ r, longS2 s r3 = r := ⟨_, rfl⟩
  obtain ⟨r5, hr5⟩ : ∃ r, tkS s r4 16 = r := ⟨_, rfl⟩
  obtain ⟨r6, hr6⟩ : ∃ r, tkS s r5 16 = r := ⟨_, rfl⟩
  obtain ⟨r7, hr7⟩ : ∃ r, tkS s r6 16 = r := ⟨_, rfl⟩
  have long_le : ∀ r : RS, r.1 ≤ 8 * s.size → (longS2 s r).1 ≤ 8 * s.size := fun r h => tkS_le (tkS_le h)
  have l1 : r1.1 ≤ 8 * s.size := by rw [← hr1]; exact long_le _ (Nat.zero_le _)
  have l2 : r2.1 ≤ 8 * s.size := by rw [← hr2]; exact long_le _ l1
  have l3 : r3.1 ≤ 8 * s.size := by rw [← hr3]; exact long_le _ l2
  have l4 : r4.1 ≤ 8 * s.size := by rw [← hr4]; exact long_le _ l3
  have l5 : r5.1 ≤ 8 * s.size := by rw [← hr5]; exact tkS_le l4
  have l6 : r6.1 ≤ 8 * s.size := by rw [← hr6]; exact tkS_le l5
  have l7 : r7.1 ≤ 8 * s.size := by rw [← hr7]; exact tkS_le l6
  have C0 := Lib.hid (fun (x : World) (h : RdQ x N s (0, 0)) => HL.out x (0, 0) (Nat.zero_le _) h)
  have C1 := Lib.hid (fun (x : World) (h : RdQ x N s r1) => HL.out x r1 l1 h)
  have C2 := Lib.hid (fun (x : World) (h : RdQ x N s r2) => HL.out x r2 l2 h)
  have C3 := Lib.hid (fun (x : World) (h : RdQ x N s r3) => HL.out x r3 l3 h)
  have C4 := Lib.hid (fun (x : World) (h : RdQ x N s r4) => HSm.out x r4 16 l4 (by omega) h)
  have C5 := Lib.hid (fun (x : World) (h : RdQ x N s r5) => HSm.out x r5 16 l5 (by omega) h)
  have C6 := Lib.hid (fun (x : World) (h : RdQ x N s r6) => HSm.out x r6 16 l6 (by omega) h)
  have C7 := Lib.hid (fun (x : World) (h : RdQ x N s r7) => HAl.out x r7 l7 h)
  have hH : qHead s = (longV2 s (0, 0), (longV2 s r1, longV2 s r2, longV2 s r3), (tkV s r4 16, tkV s r5 16, tkV s r6 16), r7) := by
    unfold qHead
    simp only [hr1, hr2, hr3, hr4, hr5, hr6, hr7]
  have longV_in : ∀ r : RS, 0 ≤ longV2 s r ∧ longV2 s r < 1099528404992 := fun r => by
    have h1 := tkV_any s r 16
    have h2 := tkV_any s (tkS s r 16) 16
    unfold longV2
    omega
  obtain ⟨n0, n1⟩ := longV_in (0, 0)
  obtain ⟨a0, a1⟩ := longV_in r1
  obtain ⟨b0, b1⟩ := longV_in r2
  obtain ⟨c0, c1⟩ := longV_in r3
  obtain ⟨x0, x1⟩ := tkV_any s r4 16
  obtain ⟨y0, y1⟩ := tkV_any s r5 16
  obtain ⟨z0, z1⟩ := tkV_any s r6 16
  obtain ⟨p, hp⟩ : ∃ v, longV2 s (0, 0) = v := ⟨_, rfl⟩
  obtain ⟨a, ha⟩ : ∃ v, longV2 s r1 = v := ⟨_, rfl⟩
  obtain ⟨b, hb⟩ : ∃ v, longV2 s r2 = v := ⟨_, rfl⟩
  obtain ⟨c, hc⟩ : ∃ v, longV2 s r3 = v := ⟨_, rfl⟩
  obtain ⟨x, hx⟩ : ∃ v, tkV s r4 16 = v := ⟨_, rfl⟩
  obtain ⟨y, hy⟩ : ∃ v, tkV s r5 16 = v := ⟨_, rfl⟩
  obtain ⟨z, hz⟩ : ∃ v, tkV s r6 16 = v := ⟨_, rfl⟩
  rw [hp, ha, hb, hc, hx, hy, hz] at hH
  rw [hp, hr1] at C0
  rw [ha, hr2] at C1
  rw [hb, hr3] at C2
  rw [hc, hr4] at C3
  rw [hx, hr5] at C4
  rw [hy, hr6] at C5
  rw [hz, hr7] at C6
  rw [hp] at n0 n1
  rw [ha] at a0 a1
  rw [hb] at b0 b1
  rw [hc] at c0 c1
  rw [hx] at x0 x1
  rw [hy] at y0 y1
  rw [hz] at z0 z1
  have HH := Lib.hid hH
  have HL7 := Lib.hid l7
  clear hH hp ha hb hc hx hy hz hr1 hr2 hr3 hr4 hr5 hr6 hr7 l1 l2 l3 l4 l5 l6 l7 longV_in long_le hN HL
  go_enter Try.func12, Try.ntmps12
  go_wp2_with fail
  refine HF.out.mono ?_
  rintro e w1 ⟨rfl, hg, hr, hsz⟩
  have R0 := Lib.hid (show RdQ w1 N s (0, 0) from hr)
  have B0 := Lib.hid (show Below N w w1 ∧ N ≤ w1.heap.size from ⟨⟨hg.os, hg.tape, hg.output, hg.size, fun k hk => hg.block k (by rw [HS.out]; exact hk) (by simp)⟩, by omega⟩)
  clear hg hr hsz
  go_wp2_with fail
  refine (C0.out _ R0.out).mono ?_
  rintro e w2 ⟨rfl, hq⟩
  have R1 := Lib.hid (R0.out.go hq)
  have B1 := Lib.hid (rstep (Nat.le_refl _) B0.out hq)
  clear hq
  go_wp2_with fail
  refine (C1.out _ R1.out).mono ?_
  rintro e w3 ⟨rfl, hq⟩
  have R2 := Lib.hid (R1.out.go hq)
  have B2 := Lib.hid (rstep (Nat.le_refl _) B1.out hq)
  clear hq
  go_wp2_with fail
  refine (C2.out _ R2.out).mono ?_
  rintro e w4 ⟨rfl, hq⟩
  have R3 := Lib.hid (R2.out.go hq)
  have B3 := Lib.hid (rstep (Nat.le_refl _) B2.out hq)
  clear hq
  go_wp2_with fail
  refine (C3.out _ R3.out).mono ?_
  rintro e w5 ⟨rfl, hq⟩
  have R4 := Lib.hid (R3.out.go hq)
  have B4 := Lib.hid (rstep (Nat.le_refl _) B3.out hq)
  clear hq
  go_wp2_with fail
  refine (C4.out _ R4.out).mono ?_
  rintro e w6 ⟨rfl, hq⟩
  have R5 := Lib.hid (R4.out.go hq)
  have B5 := Lib.hid (rstep (Nat.le_refl _) B4.out hq)
  clear hq
  go_wp2_with fail
  refine (C5.out _ R5.out).mono ?_
  rintro e w7 ⟨rfl, hq⟩
  have R6 := Lib.hid (R5.out.go hq)
  have B6 := Lib.hid (rstep (Nat.le_refl _) B5.out hq)
  clear hq
  go_wp2_with fail
  refine (C6.out _ R6.out).mono ?_
  rintro e w8 ⟨rfl, hq⟩
  have R7 := Lib.hid (R6.out.go hq)
  have B7 := Lib.hid (rstep (Nat.le_refl _) B6.out hq)
  clear hq
  clear R0 R1 R2 R3 R4 R5 R6 B0 B1 B2 B3 B4 B5 B6 C0 C1 C2 C3 C4 C5 C6
  by_cases hbad : qBad p (x, y, z)
  · have hd : decQ s = none := by
      unfold decQ
      rw [HH.out]
      exact if_pos hbad
    have he : (E, L) = (32, []) := by
      rw [← HEq.out]
      unfold readQ
      rw [hd]
    obtain ⟨rfl, rfl⟩ : E = 32 ∧ L = [] := ⟨(Prod.ext_iff.1 he).1, (Prod.ext_iff.1 he).2⟩
    have hbig : (decide (p < 1) || decide (2048 < p) || decide (24 < x) || decide (24 < y) || decide (24 < z)) = true := by
      simp only [Bool.or_eq_true, decide_eq_true_eq]
      unfold qBad at hbad
      dsimp only at hbad
      omega
    clear hd he hbad n0 n1 a0 a1 b0 b1 c0 c1 x0 x1 y0 y1 z0 z1
    go_wp2_with fail
    all_goals
      go_ret2
      first | exact ⟨⟨none, 0, rfl, HAt.nil _ _⟩, B7.out.1⟩ | exact ⟨⟨none, ⟨0, rfl⟩, HAt.nil _ _⟩, B7.out.1⟩
  · have hgood : 1 ≤ p ∧ p ≤ 2048 ∧ x ≤ 24 ∧ y ≤ 24 ∧ z ≤ 24 := by
      unfold qBad at hbad
      dsimp only at hbad
      omega
    obtain ⟨p1, p2, x2, y2, z2⟩ := hgood
    have hd : decQ s = some (qCols s p.toNat (a, b, c) (x, y, z) r7) := by
      unfold decQ
      rw [HH.out]
      exact if_neg hbad
    have HD := Lib.hid hd
    clear hd hbad
    obtain ⟨n, rfl⟩ : ∃ n : Nat, p = (n : Int) := ⟨p.toNat, by omega⟩
    have t1 : ¬ (n : Int) < 1 := by omega
    have t2 : ¬ (2048 : Int) < (n : Int) := by omega
    have t3 : ¬ 24 < x := by omega
    have t4 : ¬ 24 < y := by omega
    have t5 : ¬ 24 < z := by omega
    have t6 : 0 < n := by omega
    have HXb := Lib.hid (show 0 ≤ a ∧ a < 1099528404992 ∧ 0 ≤ b ∧ b < 1099528404992 ∧ 0 ≤ c ∧ c < 1099528404992 from ⟨a0, a1, b0, b1, c0, c1⟩)
    have HXx := Lib.hid (show x ≤ 24 ∧ y ≤ 24 ∧ z ≤ 24 from ⟨x2, y2, z2⟩)
    have hn8 : n ≤ 2048 := by omega
    have HN8 := Lib.hid hn8
    have HN0 := Lib.hid t6
    have mk := make_hints n hn8
    rw [Int.toNat_natCast] at HD
    clear n0 n1 a0 a1 b0 b1 c0 c1 x0 x1 y0 y1 z0 z1 p1 p2 x2 y2 z2 hn8 t6
    obtain ⟨h, hh⟩ : ∃ h, w8.heap.size = h := ⟨_, rfl⟩
    obtain ⟨U3, hU3⟩ : ∃ U3, w8.alloc (.cells (madeCells #[.int .i64 0, .int .i64 0, .int .i64 0] (n * 3)) 35) = U3 := ⟨_, rfl⟩
    have BU := Lib.hid (show Below N w U3 ∧ N ≤ U3.heap.size by rw [← hU3]; exact ⟨B7.out.1.alloc B7.out.2 _, by rw [World.size_alloc]; have := B7.out.2; omega⟩)
    have RU := Lib.hid (show RdQ U3 N s r7 by rw [← hU3]; exact (R7.out).alloc _)
    have OU := Lib.hid (show RAt U3 h 35 (List.replicate n (0, 0, 0)) by rw [← hU3, ← hh]; exact RAt.new (Blk.new _ _ _))
    have HNh := Lib.hid (show N < h by rw [← hh]; exact Blk.lt R7.out)
    go_wp2_with fail
    try rw [hU3]
    try rw [hh]
    clear hU3 hh mk B7 R7
    refine (C7.out _ RU.out).mono ?_
    rintro e w9 ⟨rfl, hq⟩
    have R8 := Lib.hid (RU.out.go hq)
    have B8 := Lib.hid (rstep (Nat.le_refl _) BU.out hq)
    have O8 := Lib.hid (OU.out.grown hq.1 (ne_some (Nat.ne_of_gt HNh.out)))
    clear hq
    go_wp2_with fail
    -- LOOPS
    obtain ⟨V0, hV0⟩ : ∃ V, List.replicate n ((0, 0, 0) : H3) = V := ⟨_, rfl⟩
    obtain ⟨P0, hP0⟩ : ∃ P, r7 = P := ⟨_, rfl⟩
    have HV0 := Lib.hid (show V0.length = n by rw [← hV0, List.length_replicate])
    rw [hV0] at O8
    rw [hP0] at R8 HL7
    have HLe0 := HL7
    have HQ0 := Lib.hid hV0
    have HQ1 := Lib.hid hP0
    clear hV0 hP0
    have LP0 := Lib.hid (fun j => (colQ_le j 0 V0 (alg P0.1, 0) (by have := HLe0.out; unfold alg; dsimp; omega) : (colQ s 0 a x j 0 V0 (alg P0.1, 0)).2.1 ≤ 8 * s.size))
    go_loopw [58] (fun iv wr => ∃ j : Nat, j ≤ n ∧ iv = .int .i64 (j : Int) ∧ Hid (Below N w wr ∧ N ≤ wr.heap.size) ∧ Hid (RdQ wr N s (colQ s 0 a x j 0 V0 (alg P0.1, 0)).2) ∧ Hid (RAt wr h 35 (colQ s 0 a x j 0 V0 (alg P0.1, 0)).1)) (fun iv _ => n - (intOf iv).toNat)
    case atStart => exact ⟨0, by omega, rfl, B8, R8, O8⟩
    case round =>
      clear B8 R8 O8
      obtain ⟨j, hj, rfl, HB, HR, HO⟩ := hrel
      by_cases hlt : j < n
      · have hij : (j : Int) < (n : Int) := by omega
        have hij0 : (0 : Int) ≤ (j : Int) := by omega
        have hlen : (colQ s 0 a x j 0 V0 (alg P0.1, 0)).1.length = n := by rw [colQ_len]; exact HV0.out
        have HSn := Lib.hid (colQ_snoc (s := s) (c := 0) (x := a) (w := x) j 0 V0 (alg P0.1, 0))
        have HC := Lib.hid (HSm.out _ (colQ s 0 a x j 0 V0 (alg P0.1, 0)).2 x (LP0.out j) (by have := HXx.out; omega) HR.out)
        obtain ⟨v0, v1⟩ := tkV_any s (colQ s 0 a x j 0 V0 (alg P0.1, 0)).2 x
        obtain ⟨v, hv⟩ : ∃ v, tkV s (colQ s 0 a x j 0 V0 (alg P0.1, 0)).2 x = v := ⟨_, rfl⟩
        rw [hv] at HSn HC v0 v1
        obtain ⟨q, hq⟩ : ∃ v, tkS s (colQ s 0 a x j 0 V0 (alg P0.1, 0)).2 x = v := ⟨_, rfl⟩
        rw [hq] at HSn HC
        obtain ⟨rows, hrows⟩ : ∃ rows, (colQ s 0 a x j 0 V0 (alg P0.1, 0)).1 = rows := ⟨_, rfl⟩
        rw [hrows] at HSn HO hlen
        have hjr : j < rows.length := by omega
        have HSo := Lib.hid (show colQ s 0 a x (j + 1) 0 V0 (alg P0.1, 0) = (rows.set j (setC 0 (a + v) rows[j]), q) by
          rw [HSn.out, Nat.zero_add, getD_in hjr])
        obtain ⟨g0, g1⟩ : 0 ≤ a ∧ a < 1099528404992 := by have := HXb.out; omega
        clear hv hq hrows HSn
        go_wp2_with fail
        refine HC.out.mono ?_
        rintro e x1 ⟨rfl, hq⟩
        have HR1 := Lib.hid (HR.out.go hq)
        have HB1 := Lib.hid (rstep (Nat.le_refl _) HB.out hq)
        have HO1 := Lib.hid (HO.out.grown hq.1 (ne_some (Nat.ne_of_gt HNh.out)))
        clear hq
        obtain ⟨q0, q1, q2⟩ := HO1.out.cells hjr
        have f0 := HO1.out.free (j * 3)
        have HO2 := Lib.hid (HO1.out.set (c := 0) (by omega) hjr (a + v))
        have HR2 := Lib.hid (show RdQ (x1.setCell ⟨h, j * 3, none⟩ (.int .i64 (a + v))) N s q from Blk.far HR1.out (by show N ≠ h; have := HNh.out; omega) _)
        have HB2 := Lib.hid (show Below N w (x1.setCell ⟨h, j * 3, none⟩ (.int .i64 (a + v))) ∧ N ≤ (x1.setCell ⟨h, j * 3, none⟩ (.int .i64 (a + v))).heap.size from ⟨HB1.out.1.setCell (by show N ≤ h; have := HNh.out; omega) _, by simpa [World.setCell] using HB1.out.2⟩)
        go_wp2_with fail
        go_roundw
        case rel => exact ⟨j + 1, by omega, by go_num, HB2, Lib.hid (by rw [HSo.out]; exact HR2.out), Lib.hid (by rw [HSo.out]; exact HO2.out)⟩
        case measure => simp [intOf]; omega
      · obtain rfl : n = j := by omega
        obtain ⟨V1, hV⟩ : ∃ V, (colQ s 0 a x n 0 V0 (alg P0.1, 0)).1 = V := ⟨_, rfl⟩
        obtain ⟨P1, hP⟩ : ∃ P, (colQ s 0 a x n 0 V0 (alg P0.1, 0)).2 = P := ⟨_, rfl⟩
        have HC0 := Lib.hid (show colQ s 0 a x n 0 V0 (alg P0.1, 0) = (V1, P1) by rw [← hV, ← hP])
        have HV1 := Lib.hid (show V1.length = n by rw [← hV, colQ_len]; exact HV0.out)
        have HLe1 := Lib.hid (show P1.1 ≤ 8 * s.size by rw [← hP]; exact LP0.out n)
        rw [hP] at HR
        rw [hV] at HO
        clear hV hP hlt hj
        have CA := Lib.hid (HAl.out _ P1 HLe1.out HR.out)
        go_wp2_with fail
        refine CA.out.mono ?_
        rintro e y1 ⟨rfl, hq⟩
        have R8 := Lib.hid (HR.out.go hq)
        have B8 := Lib.hid (rstep (Nat.le_refl _) HB.out hq)
        have O8 := Lib.hid (HO.out.grown hq.1 (ne_some (Nat.ne_of_gt HNh.out)))
        clear hq HR HB HO CA
        go_wp2_with fail
        have LP1 := Lib.hid (fun j => (colQ_le j 0 V1 (alg P1.1, 0) (by have := HLe1.out; unfold alg; dsimp; omega) : (colQ s 1 b y j 0 V1 (alg P1.1, 0)).2.1 ≤ 8 * s.size))
        go_loopw [75] (fun iv wr => ∃ j : Nat, j ≤ n ∧ iv = .int .i64 (j : Int) ∧ Hid (Below N w wr ∧ N ≤ wr.heap.size) ∧ Hid (RdQ wr N s (colQ s 1 b y j 0 V1 (alg P1.1, 0)).2) ∧ Hid (RAt wr h 35 (colQ s 1 b y j 0 V1 (alg P1.1, 0)).1)) (fun iv _ => n - (intOf iv).toNat)
        case atStart => exact ⟨0, by omega, rfl, B8, R8, O8⟩
        case round =>
          clear B8 R8 O8
          obtain ⟨j, hj, rfl, HB, HR, HO⟩ := hrel
          by_cases hlt : j < n
          · have hij : (j : Int) < (n : Int) := by omega
            have hij0 : (0 : Int) ≤ (j : Int) := by omega
            have hlen : (colQ s 1 b y j 0 V1 (alg P1.1, 0)).1.length = n := by rw [colQ_len]; exact HV1.out
            have HSn := Lib.hid (colQ_snoc (s := s) (c := 1) (x := b) (w := y) j 0 V1 (alg P1.1, 0))
            have HC := Lib.hid (HSm.out _ (colQ s 1 b y j 0 V1 (alg P1.1, 0)).2 y (LP1.out j) (by have := HXx.out; omega) HR.out)
            obtain ⟨v0, v1⟩ := tkV_any s (colQ s 1 b y j 0 V1 (alg P1.1, 0)).2 y
            obtain ⟨v, hv⟩ : ∃ v, tkV s (colQ s 1 b y j 0 V1 (alg P1.1, 0)).2 y = v := ⟨_, rfl⟩
            rw [hv] at HSn HC v0 v1
            obtain ⟨q, hq⟩ : ∃ v, tkS s (colQ s 1 b y j 0 V1 (alg P1.1, 0)).2 y = v := ⟨_, rfl⟩
            rw [hq] at HSn HC
            obtain ⟨rows, hrows⟩ : ∃ rows, (colQ s 1 b y j 0 V1 (alg P1.1, 0)).1 = rows := ⟨_, rfl⟩
            rw [hrows] at HSn HO hlen
            have hjr : j < rows.length := by omega
            have HSo := Lib.hid (show colQ s 1 b y (j + 1) 0 V1 (alg P1.1, 0) = (rows.set j (setC 1 (b + v) rows[j]), q) by
              rw [HSn.out, Nat.zero_add, getD_in hjr])
            obtain ⟨g0, g1⟩ : 0 ≤ b ∧ b < 1099528404992 := by have := HXb.out; omega
            clear hv hq hrows HSn
            go_wp2_with fail
            refine HC.out.mono ?_
            rintro e x1 ⟨rfl, hq⟩
            have HR1 := Lib.hid (HR.out.go hq)
            have HB1 := Lib.hid (rstep (Nat.le_refl _) HB.out hq)
            have HO1 := Lib.hid (HO.out.grown hq.1 (ne_some (Nat.ne_of_gt HNh.out)))
            clear hq
            obtain ⟨q0, q1, q2⟩ := HO1.out.cells hjr
            have f1 := HO1.out.free (j * 3 + 1)
            have HO2 := Lib.hid (HO1.out.set (c := 1) (by omega) hjr (b + v))
            have HR2 := Lib.hid (show RdQ (x1.setCell ⟨h, j * 3 + 1, none⟩ (.int .i64 (b + v))) N s q from Blk.far HR1.out (by show N ≠ h; have := HNh.out; omega) _)
            have HB2 := Lib.hid (show Below N w (x1.setCell ⟨h, j * 3 + 1, none⟩ (.int .i64 (b + v))) ∧ N ≤ (x1.setCell ⟨h, j * 3 + 1, none⟩ (.int .i64 (b + v))).heap.size from ⟨HB1.out.1.setCell (by show N ≤ h; have := HNh.out; omega) _, by simpa [World.setCell] using HB1.out.2⟩)
            go_wp2_with fail
            go_roundw
            case rel => exact ⟨j + 1, by omega, by go_num, HB2, Lib.hid (by rw [HSo.out]; exact HR2.out), Lib.hid (by rw [HSo.out]; exact HO2.out)⟩
            case measure => simp [intOf]; omega
          · obtain rfl : n = j := by omega
            obtain ⟨V2, hV⟩ : ∃ V, (colQ s 1 b y n 0 V1 (alg P1.1, 0)).1 = V := ⟨_, rfl⟩
            obtain ⟨P2, hP⟩ : ∃ P, (colQ s 1 b y n 0 V1 (alg P1.1, 0)).2 = P := ⟨_, rfl⟩
            have HC1 := Lib.hid (show colQ s 1 b y n 0 V1 (alg P1.1, 0) = (V2, P2) by rw [← hV, ← hP])
            have HV2 := Lib.hid (show V2.length = n by rw [← hV, colQ_len]; exact HV1.out)
            have HLe2 := Lib.hid (show P2.1 ≤ 8 * s.size by rw [← hP]; exact LP1.out n)
            rw [hP] at HR
            rw [hV] at HO
            clear hV hP hlt hj
            have CA := Lib.hid (HAl.out _ P2 HLe2.out HR.out)
            go_wp2_with fail
            refine CA.out.mono ?_
            rintro e y2 ⟨rfl, hq⟩
            have R8 := Lib.hid (HR.out.go hq)
            have B8 := Lib.hid (rstep (Nat.le_refl _) HB.out hq)
            have O8 := Lib.hid (HO.out.grown hq.1 (ne_some (Nat.ne_of_gt HNh.out)))
            clear hq HR HB HO CA
            go_wp2_with fail
            have LP2 := Lib.hid (fun j => (colQ_le j 0 V2 (alg P2.1, 0) (by have := HLe2.out; unfold alg; dsimp; omega) : (colQ s 2 c z j 0 V2 (alg P2.1, 0)).2.1 ≤ 8 * s.size))
            go_loopw [92] (fun iv wr => ∃ j : Nat, j ≤ n ∧ iv = .int .i64 (j : Int) ∧ Hid (Below N w wr ∧ N ≤ wr.heap.size) ∧ Hid (RdQ wr N s (colQ s 2 c z j 0 V2 (alg P2.1, 0)).2) ∧ Hid (RAt wr h 35 (colQ s 2 c z j 0 V2 (alg P2.1, 0)).1)) (fun iv _ => n - (intOf iv).toNat)
            case atStart => exact ⟨0, by omega, rfl, B8, R8, O8⟩
            case round =>
              clear B8 R8 O8
              obtain ⟨j, hj, rfl, HB, HR, HO⟩ := hrel
              by_cases hlt : j < n
              · have hij : (j : Int) < (n : Int) := by omega
                have hij0 : (0 : Int) ≤ (j : Int) := by omega
                have hlen : (colQ s 2 c z j 0 V2 (alg P2.1, 0)).1.length = n := by rw [colQ_len]; exact HV2.out
                have HSn := Lib.hid (colQ_snoc (s := s) (c := 2) (x := c) (w := z) j 0 V2 (alg P2.1, 0))
                have HC := Lib.hid (HSm.out _ (colQ s 2 c z j 0 V2 (alg P2.1, 0)).2 z (LP2.out j) (by have := HXx.out; omega) HR.out)
                obtain ⟨v0, v1⟩ := tkV_any s (colQ s 2 c z j 0 V2 (alg P2.1, 0)).2 z
                obtain ⟨v, hv⟩ : ∃ v, tkV s (colQ s 2 c z j 0 V2 (alg P2.1, 0)).2 z = v := ⟨_, rfl⟩
                rw [hv] at HSn HC v0 v1
                obtain ⟨q, hq⟩ : ∃ v, tkS s (colQ s 2 c z j 0 V2 (alg P2.1, 0)).2 z = v := ⟨_, rfl⟩
                rw [hq] at HSn HC
                obtain ⟨rows, hrows⟩ : ∃ rows, (colQ s 2 c z j 0 V2 (alg P2.1, 0)).1 = rows := ⟨_, rfl⟩
                rw [hrows] at HSn HO hlen
                have hjr : j < rows.length := by omega
                have HSo := Lib.hid (show colQ s 2 c z (j + 1) 0 V2 (alg P2.1, 0) = (rows.set j (setC 2 (c + v) rows[j]), q) by
                  rw [HSn.out, Nat.zero_add, getD_in hjr])
                obtain ⟨g0, g1⟩ : 0 ≤ c ∧ c < 1099528404992 := by have := HXb.out; omega
                clear hv hq hrows HSn
                go_wp2_with fail
                refine HC.out.mono ?_
                rintro e x1 ⟨rfl, hq⟩
                have HR1 := Lib.hid (HR.out.go hq)
                have HB1 := Lib.hid (rstep (Nat.le_refl _) HB.out hq)
                have HO1 := Lib.hid (HO.out.grown hq.1 (ne_some (Nat.ne_of_gt HNh.out)))
                clear hq
                obtain ⟨q0, q1, q2⟩ := HO1.out.cells hjr
                have f2 := HO1.out.free (j * 3 + 2)
                have HO2 := Lib.hid (HO1.out.set (c := 2) (by omega) hjr (c + v))
                have HR2 := Lib.hid (show RdQ (x1.setCell ⟨h, j * 3 + 2, none⟩ (.int .i64 (c + v))) N s q from Blk.far HR1.out (by show N ≠ h; have := HNh.out; omega) _)
                have HB2 := Lib.hid (show Below N w (x1.setCell ⟨h, j * 3 + 2, none⟩ (.int .i64 (c + v))) ∧ N ≤ (x1.setCell ⟨h, j * 3 + 2, none⟩ (.int .i64 (c + v))).heap.size from ⟨HB1.out.1.setCell (by show N ≤ h; have := HNh.out; omega) _, by simpa [World.setCell] using HB1.out.2⟩)
                go_wp2_with fail
                go_roundw
                case rel => exact ⟨j + 1, by omega, by go_num, HB2, Lib.hid (by rw [HSo.out]; exact HR2.out), Lib.hid (by rw [HSo.out]; exact HO2.out)⟩
                case measure => simp [intOf]; omega
              · obtain rfl : n = j := by omega
                obtain ⟨V3, hV⟩ : ∃ V, (colQ s 2 c z n 0 V2 (alg P2.1, 0)).1 = V := ⟨_, rfl⟩
                obtain ⟨P3, hP⟩ : ∃ P, (colQ s 2 c z n 0 V2 (alg P2.1, 0)).2 = P := ⟨_, rfl⟩
                have HC2 := Lib.hid (show colQ s 2 c z n 0 V2 (alg P2.1, 0) = (V3, P3) by rw [← hV, ← hP])
                have HV3 := Lib.hid (show V3.length = n by rw [← hV, colQ_len]; exact HV2.out)
                have HLe3 := Lib.hid (show P3.1 ≤ 8 * s.size by rw [← hP]; exact LP2.out n)
                rw [hP] at HR
                rw [hV] at HO
                clear hV hP hlt hj
                have hcols : qCols s n (a, b, c) (x, y, z) r7 = V3 := by
                  unfold qCols
                  dsimp only
                  rw [HQ0.out, HQ1.out, HC0.out]
                  dsimp only
                  rw [HC1.out]
                  dsimp only
                  rw [HC2.out]
                have hRd : readQ s = if textE V3 = 0 ∧ textB V3 = s.data.toList then (0, V3) else (32, []) := by
                  unfold readQ
                  rw [HD.out, hcols]
                rw [HEq.out] at hRd
                obtain ⟨E3, hE3⟩ : ∃ E, textE V3 = E := ⟨_, rfl⟩
                obtain ⟨T, hT⟩ : ∃ T : ByteArray, ⟨(textB V3).toArray⟩ = T := ⟨_, rfl⟩
                have HV := HV3.out
                have HTx := Lib.hid (qtextT_any (some ⟨h, 0, none⟩) n V3 wr HO.out.hat (by have := HN8.out; omega))
                rw [hE3, hT, HV] at HTx
                have HAt3 := Lib.hid HO.out.hat
                have HBe := Lib.hid HB.out
                clear HR HB HO hcols
                by_cases h0 : E3 = 0
                · by_cases h1 : textB V3 = s.data.toList
                  · rw [if_pos ⟨hE3.trans h0, h1⟩] at hRd
                    obtain ⟨rfl, rfl⟩ : E = 0 ∧ L = V3 := ⟨(Prod.ext_iff.1 hRd).1, (Prod.ext_iff.1 hRd).2⟩
                    have hTs : T = s := by rw [← hT, h1]
                    subst h0 hTs
                    clear hRd hE3 hT h1
                    go_wp2_with fail
                    refine HTx.out.mono ?_
                    rintro e v1 ⟨rfl, hb⟩
                    have HB9 := Lib.hid (hstep HBe.out hb)
                    have HA9 := Lib.hid (HAt3.out.below hb)
                    clear hb
                    go_wp2_with fail
                    go_ret2
                    exact ⟨⟨some ⟨h, 0, none⟩, n, by rw [HV]; rfl, HA9.out⟩, HB9.out.1⟩
                  · rw [if_neg (fun e => h1 e.2)] at hRd
                    obtain ⟨rfl, rfl⟩ : E = 32 ∧ L = [] := ⟨(Prod.ext_iff.1 hRd).1, (Prod.ext_iff.1 hRd).2⟩
                    have hTs : (T.toList == s.toList) = false := str_neqH (fun e => h1 ((bytes_of hT).symm.trans e))
                    subst h0
                    clear hRd hE3 hT h1
                    go_wp2_with fail
                    refine HTx.out.mono ?_
                    rintro e v1 ⟨rfl, hb⟩
                    have HB9 := Lib.hid (hstep HBe.out hb)
                    clear hb
                    go_wp2_with fail
                    all_goals
                      go_ret2
                      first | exact ⟨⟨none, 0, rfl, HAt.nil _ _⟩, HB9.out.1⟩ | exact ⟨⟨none, ⟨0, rfl⟩, HAt.nil _ _⟩, HB9.out.1⟩
                · rw [if_neg (fun e => h0 (hE3.symm.trans e.1))] at hRd
                  obtain ⟨rfl, rfl⟩ : E = 32 ∧ L = [] := ⟨(Prod.ext_iff.1 hRd).1, (Prod.ext_iff.1 hRd).2⟩
                  clear hRd hE3 hT
                  go_wp2_with fail
                  refine HTx.out.mono ?_
                  rintro e v1 ⟨rfl, hb⟩
                  have HB9 := Lib.hid (hstep HBe.out hb)
                  clear hb
                  go_wp2_with fail
                  all_goals
                    go_ret2
                    first | exact ⟨⟨none, 0, rfl, HAt.nil _ _⟩, HB9.out.1⟩ | exact ⟨⟨none, ⟨0, rfl⟩, HAt.nil _ _⟩, HB9.out.1⟩
end Go.Proofs.Ytkcnhdponcbjaaa
