/-
  BitBack: for every l the law returns true: what is written is read back by the same calls (no condition on l).
-/
import Derived.Test.YtcgejhlhbokpiaaBitNu
import Derived.Test.YtcgejhlhbokpiaaBitWr
import Derived.Deep.DeepCutAuto
namespace Go.Proofs.Ytcgejhlhbokpiaa
open Go.ChangeShapes Go.WideShapes Go.ChangeAt Go.RowKit Go.Deep Bt

theorem cl_at {xs : List Call} {k : Nat} (h : k < xs.length) : cl xs k = xs[k]'h := by
  unfold cl
  rw [List.getD_eq_getElem?_getD, List.getElem?_eq_getElem h]
  rfl
/-- The cells of call k, in any world that goes on from the first. -/
theorem asked_at {w0 : World} {A : Option Addr} {xs : List Call} (h : Asked w0 A xs) {k : Nat} (hk : k < xs.length) : ∃ b off : Nat, A = some ⟨b, off, none⟩ ∧ b < w0.heap.size ∧ ∀ j, j < xs.length →
    w0.cell? ⟨b, off + j * 4, none⟩ = some (.int .i64 (cl xs j).d) ∧ w0.cell? ⟨b, off + j * 4 + 1, none⟩ = some (.int .i64 (cl xs j).n) ∧ w0.cell? ⟨b, off + j * 4 + 2, none⟩ = some (.int .i64 (cl xs j).v) ∧ w0.cell? ⟨b, off + j * 4 + 3, none⟩ = some (.string (cl xs j).s) := by
  obtain ⟨b, off, hA, hb, _⟩ := h k hk
  refine ⟨b, off, hA, hb, fun j hj => ?_⟩
  obtain ⟨b', off', hA', _, h1, h2, h3, h4⟩ := h j hj
  rw [hA] at hA'
  injection hA' with hA'
  injection hA' with e1 e2 _
  subst e1 e2
  rw [cl_at hj]
  exact ⟨h1, h2, h3, h4⟩

theorem sizes_succ {xs : List Call} {k : Nat} {s : ByteArray} (h : ∀ j, j < k → (cl xs j).s.size ≤ 300) (hs : (cl xs k).s = s) (h3 : s.size ≤ 300) : ∀ j, j < k + 1 → (cl xs j).s.size ≤ 300 := by
  intro j hj
  rcases Nat.lt_succ_iff_lt_or_eq.1 hj with h' | h'
  · exact h j h'
  · rw [h', hs]; exact h3

set_option maxRecDepth 100000 in
set_option maxHeartbeats 2000000 in
theorem back_many (A : Option Addr) (cap : Nat) (xs : List Call) (w : World) (h2 : 60 < xs.length) :
    Calls Try.prog 5 #[.slice A xs.length cap] w fun e w' => e = .returned (.bool true) ∧ Below w.heap.size w w' := by
  go_enter Try.func5, Try.ntmps5
  go_wp2_with fail
  refine (lives_any _).mono ?_
  rintro e w1 ⟨rfl, hb⟩
  go_wp2_with fail
  go_ret
  exact ⟨rfl, hb⟩

set_option maxRecDepth 100000 in
set_option maxHeartbeats 16000000 in
theorem back_short (A : Option Addr) (cap : Nat) (xs : List Call) (w0 : World) (h2 : xs.length ≤ 60) (hx : Asked w0 A xs) :
    Calls Try.prog 5 #[.slice A xs.length cap] w0 fun e w' => e = .returned (.bool true) ∧ Below w0.heap.size w0 w' := by
  obtain ⟨N, hN⟩ : ∃ N, w0.heap.size = N := ⟨_, rfl⟩
  have HB0 := Lib.hid (show Below N w0 w0 from Below.refl _ _)
  have HN0 := Lib.hid hN
  have HXs := Lib.hid hx
  rw [hN]
  clear hN hx
  go_enter Try.func5, Try.ntmps5
  go_wp2_with fail
  refine (wnew_c N N w0 (Nat.le_of_eq HN0.out.symm) HN0.out).mono ?_
  rintro e w1 ⟨rfl, hg, hw, hz⟩
  have HB1 := Lib.hid (HB0.out.grown hg (Nat.le_of_eq HN0.out.symm) (fun k e => by cases e))
  have HW1 := Lib.hid hw
  have HN1 := Lib.hid (show N + 1 ≤ w1.heap.size by rw [hz]; exact Nat.le_refl _)
  clear hg hw hz
  go_wp2_with fail
  go_loopw [4] (fun i wr => ∃ (k : Nat) (r : Option Nat), k ≤ xs.length ∧ i = .int .i64 k ∧ (∀ j, j < k → (cl xs j).s.size ≤ 300) ∧ Below N w0 wr ∧ N + 1 ≤ wr.heap.size ∧ Wr 60 N wr N r (st xs k).l (st xs k).p (st xs k).o) (fun i _ => xs.length - (intOf i).toNat)
  case atStart => exact ⟨0, none, Nat.zero_le _, rfl, fun j hj => absurd hj (Nat.not_lt_zero _), HB1.out, HN1.out, HW1.out⟩
  case round =>
    clear HB0 HB1 HW1 HN1
    obtain ⟨k, r, hk, rfl, hsz, hb, hz, hw⟩ := hrel
    have HS := Lib.hid hsz
    have HB := Lib.hid hb
    have HZ := Lib.hid hz
    have HW := Lib.hid hw
    clear hsz hb hz hw
    by_cases hlt : k < xs.length
    · obtain ⟨b, off, hA, hbl, hread⟩ := asked_at HXs.out hlt
      subst hA
      have hbN : b < N := by rw [← HN0.out]; exact hbl
      have RD : Hid (∀ (w : World) (j : Nat), j < xs.length → Below N w0 w → w.cell? ⟨b, off + j * 4, none⟩ = some (.int .i64 (cl xs j).d) ∧ w.cell? ⟨b, off + j * 4 + 1, none⟩ = some (.int .i64 (cl xs j).n) ∧ w.cell? ⟨b, off + j * 4 + 2, none⟩ = some (.int .i64 (cl xs j).v) ∧ w.cell? ⟨b, off + j * 4 + 3, none⟩ = some (.string (cl xs j).s)) :=
        Lib.hid (fun w j hj hb => by
          obtain ⟨e0, e1, e2, e3⟩ := hread j hj
          exact ⟨(hb.cell (p := ⟨b, _, none⟩) hbN).trans e0, (hb.cell (p := ⟨b, _, none⟩) hbN).trans e1, (hb.cell (p := ⟨b, _, none⟩) hbN).trans e2, (hb.cell (p := ⟨b, _, none⟩) hbN).trans e3⟩)
      obtain ⟨d, hd⟩ : ∃ d, (cl xs k).d = d := ⟨_, rfl⟩
      obtain ⟨n, hn⟩ : ∃ n, (cl xs k).n = n := ⟨_, rfl⟩
      obtain ⟨v, hv⟩ : ∃ v, (cl xs k).v = v := ⟨_, rfl⟩
      obtain ⟨s, hs⟩ : ∃ s, (cl xs k).s = s := ⟨_, rfl⟩
      have HD := Lib.hid hd
      have Hn := Lib.hid hn
      have Hv := Lib.hid hv
      have Hs := Lib.hid hs
      obtain ⟨c0, c1, c2, c3⟩ := RD.out wr k hlt HB.out
      rw [hd] at c0
      rw [hn] at c1
      rw [hv] at c2
      rw [hs] at c3
      clear hd hn hv hs hread hbl
      by_cases hsz : 300 < s.size
      · go_wp2_with fail
        refine (lives_any _).mono ?_
        rintro e w9 ⟨rfl, hb⟩
        go_wp2_with fail
        go_ret
        exact ⟨rfl, HB.out.trans (hb.mono (by have := HZ.out; omega))⟩
      go_wp2_with fail
      go_cut [66] (fun b66 wx => b66 = .bool (needs xs k) ∧ ∃ m, wx = wr.drewN m)
      case first =>
        as_aux_lemma =>
          have l0 : (0 : Int) ≤ (k : Int) := by omega
          have l1 : (k : Int) < (xs.length : Int) := by omega
          by_cases hk0 : k = 0
          · have bk : decide (0 < k) = false := decide_eq_false (by omega)
            have NE : Hid (needs xs k = (decide (1 < d) || decide (d < 0))) := Lib.hid (by unfold needs; rw [HD.out, decide_eq_false (show ¬ 0 < k by omega)]; simp)
            clear hk0
            by_cases g1 : 1 < d
            · have G : Hid (needs xs k = true) := Lib.hid (by rw [NE.out, decide_eq_true g1]; simp)
              go_wp2_with fail
              go_quiet (fail)
              go_wp2_with fail
              go_meet
              rw [G.out]
              exact ⟨rfl, _, rfl⟩
            · have b1 : decide (1 < d) = false := decide_eq_false g1
              by_cases g2 : d < 0
              · have G : Hid (needs xs k = true) := Lib.hid (by rw [NE.out, decide_eq_true g2]; simp)
                go_wp2_with fail
                go_quiet (fail)
                go_wp2_with fail
                go_meet
                rw [G.out]
                exact ⟨rfl, _, rfl⟩
              · have b2 : decide (d < 0) = false := decide_eq_false g2
                have G : Hid (needs xs k = false) := Lib.hid (by rw [NE.out, b1, b2]; rfl)
                clear g1 g2
                go_wp2_with fail
                go_quiet (fail)
                go_wp2_with fail
                go_meet
                rw [G.out]
                exact ⟨rfl, _, rfl⟩
          · obtain ⟨j, hj⟩ : ∃ j, k = j + 1 := ⟨k - 1, by omega⟩
            obtain ⟨d0, hd0⟩ : ∃ d0, (cl xs j).d = d0 := ⟨_, rfl⟩
            obtain ⟨p0, _, _, _⟩ := RD.out wr j (by omega) HB.out
            rw [hd0] at p0
            have HD0 := Lib.hid hd0
            have bk : 0 < k := by omega
            have i1 : IntKind.i64.wrap ((k : Int) - 1) = (j : Int) := by rw [show (k : Int) - 1 = j by omega]; exact IntWalk.i64_in _ (by omega)
            have i3 : (0 : Int) ≤ (j : Int) := by omega
            have i4 : (j : Int) < (xs.length : Int) := by omega
            have NE : Hid (needs xs k = ((decide (d ≠ d0) || decide (1 < d)) || decide (d < 0))) := Lib.hid (by unfold needs; rw [HD.out, show k - 1 = j by omega, HD0.out, decide_eq_true (show 0 < k by omega), Bool.true_and])
            clear hd0 hk0 hj
            by_cases g0 : d = d0
            · have b0 : (d != d0) = false := by simpa using g0
              have NE2 : Hid (needs xs k = (decide (1 < d) || decide (d < 0))) := Lib.hid (by rw [NE.out, decide_eq_false (show ¬ d ≠ d0 from fun h => h g0)]; rfl)
              clear g0
              by_cases g1 : 1 < d
              · have G : Hid (needs xs k = true) := Lib.hid (by rw [NE2.out, decide_eq_true g1]; simp)
                go_wp2_with fail
                go_quiet (fail)
                go_wp2_with fail
                go_meet
                rw [G.out]
                exact ⟨rfl, _, rfl⟩
              · have b1 : decide (1 < d) = false := decide_eq_false g1
                by_cases g2 : d < 0
                · have G : Hid (needs xs k = true) := Lib.hid (by rw [NE2.out, decide_eq_true g2]; simp)
                  go_wp2_with fail
                  go_quiet (fail)
                  go_wp2_with fail
                  go_meet
                  rw [G.out]
                  exact ⟨rfl, _, rfl⟩
                · have b2 : decide (d < 0) = false := decide_eq_false g2
                  have G : Hid (needs xs k = false) := Lib.hid (by rw [NE2.out, b1, b2]; rfl)
                  clear g1 g2
                  go_wp2_with fail
                  go_quiet (fail)
                  go_wp2_with fail
                  go_meet
                  rw [G.out]
                  exact ⟨rfl, _, rfl⟩
            · have b0 : (d != d0) = true := by rw [bne_iff_ne]; exact g0
              have G : Hid (needs xs k = true) := Lib.hid (by rw [NE.out, decide_eq_true g0]; simp)
              clear g0
              go_wp2_with fail
              go_quiet (fail)
              go_wp2_with fail
              go_meet
              rw [G.out]
              exact ⟨rfl, _, rfl⟩
      case rest =>
        obtain ⟨rfl, mm, rfl⟩ := hcut
        have hUO := open_at xs k
        obtain ⟨u, hu⟩ : ∃ u, ahead xs k (st xs k) = u := ⟨_, rfl⟩
        rw [hu, HD.out] at hUO
        have HU := Lib.hid hu
        have HUO := Lib.hid hUO
        have HUL : Hid (u.l.length ≤ 900000) := Lib.hid (by
          rw [← HU.out, ahead_l]
          have := st_le (xs := xs) k HS.out
          omega)
        have hnext : st xs (k + 1) = after (cl xs k) u := by rw [← hu]; rfl
        have HNx := Lib.hid hnext
        clear hu hUO hnext c0 c1 c2 c3
        by_cases hnd : needs xs k = true
        · have hul : u = ⟨(st xs k).l, 0, 0⟩ := by rw [← HU.out]; unfold ahead; rw [if_pos hnd]
          as_aux_lemma =>
            have HUL2 := Lib.hid hul
            clear hul
            rw [hnd]
            go_wp2_with fail
            refine (walign_any N N r (st xs k).l (st xs k).p (st xs k).o _ (by exact HW.out)).mono ?_
            rintro e wu ⟨rfl, ru, hru, hwu, htu⟩
            have HBu : Hid (Below N w0 wu) := Lib.hid ((below_drewN HB.out mm).trans (htu.below (by have := HZ.out; show N ≤ wr.heap.size; omega) (Nat.le_refl _) (fun j hj => (HW.out.row_in j hj).1)))
            have HZu : Hid (N + 1 ≤ wu.heap.size) := Lib.hid (Nat.le_trans HZ.out htu.size)
            have HWu : Hid (Wr 60 N wu N ru u.l u.p u.o) := Lib.hid (by rw [HUL2.out]; exact hwu)
            clear hru hwu htu HUL2
            obtain ⟨c0, c1, c2, c3⟩ := RD.out wu k hlt HBu.out
            rw [HD.out] at c0
            rw [Hn.out] at c1
            rw [Hv.out] at c2
            rw [Hs.out] at c3
            obtain ⟨nb, hnb⟩ : ∃ nb, numN n = nb := ⟨_, rfl⟩
            obtain ⟨vb, hvb⟩ : ∃ vb, numV n v = vb := ⟨_, rfl⟩
            have HNb := Lib.hid hnb
            have HVb := Lib.hid hvb
            clear hnb hvb
            go_wp2_with fail
            refine (num_c d n v s wu nb vb HNb.out HVb.out).mono ?_
            rintro e wv ⟨rfl, hbv⟩
            have HBv : Hid (Below N w0 wv) := Lib.hid (HBu.out.trans (hbv.mono (by have := HZu.out; omega)))
            have HZv : Hid (N + 1 ≤ wv.heap.size) := Lib.hid (Nat.le_trans HZu.out hbv.size)
            have HWv : Hid (Wr 60 N wv N ru u.l u.p u.o) := Lib.hid (HWu.out.grown (grown_of_below hbv none) (by simp) (by cases ru with | none => exact Or.inl rfl | some x => exact Or.inr (by simp)))
            clear hbv c0 c1 c2 c3
            obtain ⟨c0, c1, c2, c3⟩ := RD.out wv k hlt HBv.out
            rw [HD.out] at c0
            rw [Hn.out] at c1
            rw [Hv.out] at c2
            rw [Hs.out] at c3
            by_cases hd0 : d = 0
            · subst hd0
              as_aux_lemma =>
                obtain ⟨q1, q2, q3, q4⟩ := after0 (c := cl xs k) (t := u) HD.out (HUO.out.2.1 rfl)
                rw [Hn.out, Hv.out, HVb.out, HNb.out] at q1 q2 q3 q4
                rw [← HNx.out] at q2 q3 q4
                have Q1 := Lib.hid q1
                have Q2 := Lib.hid q2
                have Q3 := Lib.hid q3
                have Q4 := Lib.hid q4
                clear q1 q2 q3 q4
                go_wp2_with fail
                refine (wlow_c N N ru u.l _ u.p _ u.o vb nb 0 _ wv HUL.out (by have := HZv.out; omega) HWv.out HUO.out.1 Q1.out Q2.out Q3.out Q4.out).mono ?_
                rintro e wx ⟨rfl, rx, hrx, hwx, htx⟩
                have HBx : Hid (Below N w0 wx) := Lib.hid (HBv.out.trans (htx.below (by have := HZv.out; omega) (Nat.le_refl _) (fun j hj => (HWv.out.row_in j hj).1)))
                have HZx : Hid (N + 1 ≤ wx.heap.size) := Lib.hid (Nat.le_trans HZv.out htx.size)
                have HWx := Lib.hid hwx
                obtain ⟨x0, x1, x2, x3⟩ := RD.out wx k hlt HBx.out
                rw [HD.out] at x0
                clear hrx hwx htx c0 c1 c2 c3 x1 x2 x3
                go_wp2_with fail
                go_roundw
                case rel => exact ⟨k + 1, _, by omega, by go_num, sizes_succ HS.out Hs.out (by omega), HBx.out, HZx.out, HWx.out⟩
                case measure => simp [intOf]; omega
            by_cases hd1 : d = 1
            · subst hd1
              as_aux_lemma =>
                obtain ⟨q1, q2, q3, q4⟩ := after1 (c := cl xs k) (t := u) HD.out (HUO.out.2.2.1 rfl)
                rw [Hn.out, Hv.out, HVb.out, HNb.out] at q1 q2 q3 q4
                rw [← HNx.out] at q2 q3 q4
                have Q1 := Lib.hid q1
                have Q2 := Lib.hid q2
                have Q3 := Lib.hid q3
                have Q4 := Lib.hid q4
                clear q1 q2 q3 q4
                go_wp2_with fail
                refine (whigh_c N N ru u.l _ u.p _ u.o vb nb 0 _ wv HUL.out (by have := HZv.out; omega) HWv.out HUO.out.1 Q1.out Q2.out Q3.out Q4.out).mono ?_
                rintro e wx ⟨rfl, rx, hrx, hwx, htx⟩
                have HBx : Hid (Below N w0 wx) := Lib.hid (HBv.out.trans (htx.below (by have := HZv.out; omega) (Nat.le_refl _) (fun j hj => (HWv.out.row_in j hj).1)))
                have HZx : Hid (N + 1 ≤ wx.heap.size) := Lib.hid (Nat.le_trans HZv.out htx.size)
                have HWx := Lib.hid hwx
                obtain ⟨x0, x1, x2, x3⟩ := RD.out wx k hlt HBx.out
                rw [HD.out] at x0
                clear hrx hwx htx c0 c1 c2 c3 x1 x2 x3
                go_wp2_with fail
                go_roundw
                case rel => exact ⟨k + 1, _, by omega, by go_num, sizes_succ HS.out Hs.out (by omega), HBx.out, HZx.out, HWx.out⟩
                case measure => simp [intOf]; omega
            by_cases hd3 : d = 3
            · subst hd3
              as_aux_lemma =>
                have q := after3 (c := cl xs k) (t := u) HD.out
                rw [Hs.out, ← HNx.out] at q
                have Q := Lib.hid q
                have hup := HUO.out.2.2.2 (by decide) (by decide)
                have HUp := Lib.hid hup
                clear q hup
                go_wp2_with fail
                refine (wraw_c N N ru u.l u.p u.o u.o s wv HUL.out (by omega) (by have := HZv.out; omega) HWv.out (by rw [HUp.out.2]; rfl)).mono ?_
                rintro e wx ⟨rfl, rx, hrx, hwx, htx⟩
                have HBx : Hid (Below N w0 wx) := Lib.hid (HBv.out.trans (htx.below (by have := HZv.out; omega) (Nat.le_refl _) (fun j hj => (HWv.out.row_in j hj).1)))
                have HZx : Hid (N + 1 ≤ wx.heap.size) := Lib.hid (Nat.le_trans HZv.out htx.size)
                have HWx : Hid (Wr 60 N wx N rx (st xs (k + 1)).l (st xs (k + 1)).p (st xs (k + 1)).o) := Lib.hid (by rw [Q.out]; exact hwx)
                clear hrx hwx htx c0 c1 c2 c3
                go_wp2_with fail
                go_roundw
                case rel => exact ⟨k + 1, _, by omega, by go_num, sizes_succ HS.out Hs.out (by omega), HBx.out, HZx.out, HWx.out⟩
                case measure => simp [intOf]; omega
            have q := afterX (c := cl xs k) (t := u) (by rw [HD.out]; exact hd0) (by rw [HD.out]; exact hd1) (by rw [HD.out]; exact hd3)
            rw [← HNx.out] at q
            have HWx : Hid (Wr 60 N wv N ru (st xs (k + 1)).l (st xs (k + 1)).p (st xs (k + 1)).o) := Lib.hid (by rw [q]; exact HWv.out)
            have b0 : (d == 0) = false := by simpa using hd0
            have b1 : (d == 1) = false := by simpa using hd1
            have b3 : (d == 3) = false := by simpa using hd3
            clear q hd0 hd1 hd3
            go_wp2_with fail
            go_roundw
            case rel => exact ⟨k + 1, _, by omega, by go_num, sizes_succ HS.out Hs.out (by omega), HBv.out, HZv.out, HWx.out⟩
            case measure => simp [intOf]; omega
        · have hnf : needs xs k = false := by simpa using hnd
          as_aux_lemma =>
            rw [hnf]
            have hul : u = st xs k := by rw [← HU.out]; unfold ahead; rw [if_neg hnd]
            obtain ⟨wu, hwu⟩ : ∃ wu, wr.drewN mm = wu := ⟨_, rfl⟩
            have HBu : Hid (Below N w0 wu) := Lib.hid (by rw [← hwu]; exact below_drewN HB.out mm)
            have HZu : Hid (N + 1 ≤ wu.heap.size) := Lib.hid (by rw [← hwu]; exact HZ.out)
            have HWu : Hid (Wr 60 N wu N r u.l u.p u.o) := Lib.hid (by rw [← hwu, hul]; exact HW.out)
            rw [hwu]
            obtain ⟨ru, hru⟩ : ∃ ru, r = ru := ⟨_, rfl⟩
            rw [hru] at HWu
            clear hul hwu hru
            obtain ⟨c0, c1, c2, c3⟩ := RD.out wu k hlt HBu.out
            rw [HD.out] at c0
            rw [Hn.out] at c1
            rw [Hv.out] at c2
            rw [Hs.out] at c3
            obtain ⟨nb, hnb⟩ : ∃ nb, numN n = nb := ⟨_, rfl⟩
            obtain ⟨vb, hvb⟩ : ∃ vb, numV n v = vb := ⟨_, rfl⟩
            have HNb := Lib.hid hnb
            have HVb := Lib.hid hvb
            clear hnb hvb
            go_wp2_with fail
            refine (num_c d n v s wu nb vb HNb.out HVb.out).mono ?_
            rintro e wv ⟨rfl, hbv⟩
            have HBv : Hid (Below N w0 wv) := Lib.hid (HBu.out.trans (hbv.mono (by have := HZu.out; omega)))
            have HZv : Hid (N + 1 ≤ wv.heap.size) := Lib.hid (Nat.le_trans HZu.out hbv.size)
            have HWv : Hid (Wr 60 N wv N ru u.l u.p u.o) := Lib.hid (HWu.out.grown (grown_of_below hbv none) (by simp) (by cases ru with | none => exact Or.inl rfl | some x => exact Or.inr (by simp)))
            clear hbv c0 c1 c2 c3
            obtain ⟨c0, c1, c2, c3⟩ := RD.out wv k hlt HBv.out
            rw [HD.out] at c0
            rw [Hn.out] at c1
            rw [Hv.out] at c2
            rw [Hs.out] at c3
            by_cases hd0 : d = 0
            · subst hd0
              as_aux_lemma =>
                obtain ⟨q1, q2, q3, q4⟩ := after0 (c := cl xs k) (t := u) HD.out (HUO.out.2.1 rfl)
                rw [Hn.out, Hv.out, HVb.out, HNb.out] at q1 q2 q3 q4
                rw [← HNx.out] at q2 q3 q4
                have Q1 := Lib.hid q1
                have Q2 := Lib.hid q2
                have Q3 := Lib.hid q3
                have Q4 := Lib.hid q4
                clear q1 q2 q3 q4
                go_wp2_with fail
                refine (wlow_c N N ru u.l _ u.p _ u.o vb nb 0 _ wv HUL.out (by have := HZv.out; omega) HWv.out HUO.out.1 Q1.out Q2.out Q3.out Q4.out).mono ?_
                rintro e wx ⟨rfl, rx, hrx, hwx, htx⟩
                have HBx : Hid (Below N w0 wx) := Lib.hid (HBv.out.trans (htx.below (by have := HZv.out; omega) (Nat.le_refl _) (fun j hj => (HWv.out.row_in j hj).1)))
                have HZx : Hid (N + 1 ≤ wx.heap.size) := Lib.hid (Nat.le_trans HZv.out htx.size)
                have HWx := Lib.hid hwx
                obtain ⟨x0, x1, x2, x3⟩ := RD.out wx k hlt HBx.out
                rw [HD.out] at x0
                clear hrx hwx htx c0 c1 c2 c3 x1 x2 x3
                go_wp2_with fail
                go_roundw
                case rel => exact ⟨k + 1, _, by omega, by go_num, sizes_succ HS.out Hs.out (by omega), HBx.out, HZx.out, HWx.out⟩
                case measure => simp [intOf]; omega
            by_cases hd1 : d = 1
            · subst hd1
              as_aux_lemma =>
                obtain ⟨q1, q2, q3, q4⟩ := after1 (c := cl xs k) (t := u) HD.out (HUO.out.2.2.1 rfl)
                rw [Hn.out, Hv.out, HVb.out, HNb.out] at q1 q2 q3 q4
                rw [← HNx.out] at q2 q3 q4
                have Q1 := Lib.hid q1
                have Q2 := Lib.hid q2
                have Q3 := Lib.hid q3
                have Q4 := Lib.hid q4
                clear q1 q2 q3 q4
                go_wp2_with fail
                refine (whigh_c N N ru u.l _ u.p _ u.o vb nb 0 _ wv HUL.out (by have := HZv.out; omega) HWv.out HUO.out.1 Q1.out Q2.out Q3.out Q4.out).mono ?_
                rintro e wx ⟨rfl, rx, hrx, hwx, htx⟩
                have HBx : Hid (Below N w0 wx) := Lib.hid (HBv.out.trans (htx.below (by have := HZv.out; omega) (Nat.le_refl _) (fun j hj => (HWv.out.row_in j hj).1)))
                have HZx : Hid (N + 1 ≤ wx.heap.size) := Lib.hid (Nat.le_trans HZv.out htx.size)
                have HWx := Lib.hid hwx
                obtain ⟨x0, x1, x2, x3⟩ := RD.out wx k hlt HBx.out
                rw [HD.out] at x0
                clear hrx hwx htx c0 c1 c2 c3 x1 x2 x3
                go_wp2_with fail
                go_roundw
                case rel => exact ⟨k + 1, _, by omega, by go_num, sizes_succ HS.out Hs.out (by omega), HBx.out, HZx.out, HWx.out⟩
                case measure => simp [intOf]; omega
            by_cases hd3 : d = 3
            · subst hd3
              as_aux_lemma =>
                have q := after3 (c := cl xs k) (t := u) HD.out
                rw [Hs.out, ← HNx.out] at q
                have Q := Lib.hid q
                have hup := HUO.out.2.2.2 (by decide) (by decide)
                have HUp := Lib.hid hup
                clear q hup
                go_wp2_with fail
                refine (wraw_c N N ru u.l u.p u.o u.o s wv HUL.out (by omega) (by have := HZv.out; omega) HWv.out (by rw [HUp.out.2]; rfl)).mono ?_
                rintro e wx ⟨rfl, rx, hrx, hwx, htx⟩
                have HBx : Hid (Below N w0 wx) := Lib.hid (HBv.out.trans (htx.below (by have := HZv.out; omega) (Nat.le_refl _) (fun j hj => (HWv.out.row_in j hj).1)))
                have HZx : Hid (N + 1 ≤ wx.heap.size) := Lib.hid (Nat.le_trans HZv.out htx.size)
                have HWx : Hid (Wr 60 N wx N rx (st xs (k + 1)).l (st xs (k + 1)).p (st xs (k + 1)).o) := Lib.hid (by rw [Q.out]; exact hwx)
                clear hrx hwx htx c0 c1 c2 c3
                go_wp2_with fail
                go_roundw
                case rel => exact ⟨k + 1, _, by omega, by go_num, sizes_succ HS.out Hs.out (by omega), HBx.out, HZx.out, HWx.out⟩
                case measure => simp [intOf]; omega
            have q := afterX (c := cl xs k) (t := u) (by rw [HD.out]; exact hd0) (by rw [HD.out]; exact hd1) (by rw [HD.out]; exact hd3)
            rw [← HNx.out] at q
            have HWx : Hid (Wr 60 N wv N ru (st xs (k + 1)).l (st xs (k + 1)).p (st xs (k + 1)).o) := Lib.hid (by rw [q]; exact HWv.out)
            have b0 : (d == 0) = false := by simpa using hd0
            have b1 : (d == 1) = false := by simpa using hd1
            have b3 : (d == 3) = false := by simpa using hd3
            clear q hd0 hd1 hd3
            go_wp2_with fail
            go_roundw
            case rel => exact ⟨k + 1, _, by omega, by go_num, sizes_succ HS.out Hs.out (by omega), HBv.out, HZv.out, HWx.out⟩
            case measure => simp [intOf]; omega
    · obtain rfl : k = xs.length := by omega
      as_aux_lemma =>
        go_wp2_with fail
        refine (wtext_any N N r _ _ _ _ HW.out).mono ?_
        rintro e w' ⟨rfl, rfl⟩
        obtain ⟨T, hT⟩ : ∃ T, (st xs xs.length).l = T := ⟨_, rfl⟩
        have HT := Lib.hid hT
        obtain ⟨S, hS⟩ : ∃ S : ByteArray, (⟨T.toArray⟩ : ByteArray) = S := ⟨_, rfl⟩
        have HSd : Hid (S.data.toList = T) := Lib.hid (by rw [← hS])
        have HSz : Hid (S.size = T.length) := Lib.hid (by rw [← hS]; rfl)
        rw [hT, hS]
        have HTl : Hid (T.length ≤ 18000) := Lib.hid (by rw [← hT]; have := st_le (xs := xs) xs.length HS.out; omega)
        obtain ⟨M, hM⟩ : ∃ M, wr.heap.size = M := ⟨_, rfl⟩
        have HM := Lib.hid hM
        have hNM : N + 1 ≤ M := by rw [← hM]; exact HZ.out
        clear hT hS hM
        go_wp2_with fail
        refine (rfrom_c S M wr HM.out).mono ?_
        rintro e wg ⟨rfl, hg, hr, hz⟩
        have HBg : Hid (Below N w0 wg) := Lib.hid (HB.out.grown hg (by have := HM.out; omega) (fun k e => by cases e))
        have HZg : Hid (M + 1 ≤ wg.heap.size) := Lib.hid (by rw [hz]; exact Nat.le_refl _)
        have HRg := Lib.hid hr
        have HWg : Hid (Wr 60 N wg N r T (st xs xs.length).p (st xs xs.length).o) := Lib.hid (by rw [← HT.out]; exact HW.out.grown hg (by simp) (by cases r with | none => exact Or.inl rfl | some x => exact Or.inr (by simp)))
        have HrM : Hid (r ≠ some M) := Lib.hid (fun e => by have := (HW.out.row_in M e).2; have := HM.out; omega)
        clear hg hr hz
        go_wp2_with fail
        go_loopw [8] (fun i wr => ∃ (k : Nat), k ≤ xs.length ∧ i = .int .i64 k ∧ Below N w0 wr ∧ M + 1 ≤ wr.heap.size ∧ Rd 51 wr M S (pos (st xs k).l (st xs k).p) (st xs k).o ∧ Wr 60 N wr N r T (st xs xs.length).p (st xs xs.length).o) (fun i _ => xs.length - (intOf i).toNat)
        case atStart => exact ⟨0, Nat.zero_le _, rfl, HBg.out, HZg.out, HRg.out, HWg.out⟩
        case round =>
          clear HB HZ HW HBg HZg HRg HWg HS HM
          obtain ⟨k, hk, rfl, hb, hz, hr, hw⟩ := hrel
          have HB := Lib.hid hb
          have HZ := Lib.hid hz
          have HR := Lib.hid hr
          have HW := Lib.hid hw
          clear hb hz hr hw
          by_cases hlt : k < xs.length
          · obtain ⟨b, off, hA, hbl, hread⟩ := asked_at HXs.out hlt
            subst hA
            have hbN : b < N := by rw [← HN0.out]; exact hbl
            have RD : Hid (∀ (w : World) (j : Nat), j < xs.length → Below N w0 w → w.cell? ⟨b, off + j * 4, none⟩ = some (.int .i64 (cl xs j).d) ∧ w.cell? ⟨b, off + j * 4 + 1, none⟩ = some (.int .i64 (cl xs j).n) ∧ w.cell? ⟨b, off + j * 4 + 2, none⟩ = some (.int .i64 (cl xs j).v) ∧ w.cell? ⟨b, off + j * 4 + 3, none⟩ = some (.string (cl xs j).s)) :=
              Lib.hid (fun w j hj hb => by
                obtain ⟨e0, e1, e2, e3⟩ := hread j hj
                exact ⟨(hb.cell (p := ⟨b, _, none⟩) hbN).trans e0, (hb.cell (p := ⟨b, _, none⟩) hbN).trans e1, (hb.cell (p := ⟨b, _, none⟩) hbN).trans e2, (hb.cell (p := ⟨b, _, none⟩) hbN).trans e3⟩)
            obtain ⟨d, hd⟩ : ∃ d, (cl xs k).d = d := ⟨_, rfl⟩
            obtain ⟨n, hn⟩ : ∃ n, (cl xs k).n = n := ⟨_, rfl⟩
            obtain ⟨v, hv⟩ : ∃ v, (cl xs k).v = v := ⟨_, rfl⟩
            obtain ⟨s, hs⟩ : ∃ s, (cl xs k).s = s := ⟨_, rfl⟩
            have HD := Lib.hid hd
            have Hn := Lib.hid hn
            have Hv := Lib.hid hv
            have Hs := Lib.hid hs
            obtain ⟨c0, c1, c2, c3⟩ := RD.out wr k hlt HB.out
            rw [hd] at c0
            rw [hn] at c1
            rw [hv] at c2
            rw [hs] at c3
            clear hd hn hv hs hread hbl
            go_wp2_with fail
            go_cut [160] (fun b66 wx => b66 = .bool (needs xs k) ∧ ∃ m, wx = wr.drewN m)
            case first =>
              as_aux_lemma =>
                have l0 : (0 : Int) ≤ (k : Int) := by omega
                have l1 : (k : Int) < (xs.length : Int) := by omega
                by_cases hk0 : k = 0
                · have bk : decide (0 < k) = false := decide_eq_false (by omega)
                  have NE : Hid (needs xs k = (decide (1 < d) || decide (d < 0))) := Lib.hid (by unfold needs; rw [HD.out, decide_eq_false (show ¬ 0 < k by omega)]; simp)
                  clear hk0
                  by_cases g1 : 1 < d
                  · have G : Hid (needs xs k = true) := Lib.hid (by rw [NE.out, decide_eq_true g1]; simp)
                    go_wp2_with fail
                    go_quiet (fail)
                    go_wp2_with fail
                    go_meet
                    rw [G.out]
                    exact ⟨rfl, _, rfl⟩
                  · have b1 : decide (1 < d) = false := decide_eq_false g1
                    by_cases g2 : d < 0
                    · have G : Hid (needs xs k = true) := Lib.hid (by rw [NE.out, decide_eq_true g2]; simp)
                      go_wp2_with fail
                      go_quiet (fail)
                      go_wp2_with fail
                      go_meet
                      rw [G.out]
                      exact ⟨rfl, _, rfl⟩
                    · have b2 : decide (d < 0) = false := decide_eq_false g2
                      have G : Hid (needs xs k = false) := Lib.hid (by rw [NE.out, b1, b2]; rfl)
                      clear g1 g2
                      go_wp2_with fail
                      go_quiet (fail)
                      go_wp2_with fail
                      go_meet
                      rw [G.out]
                      exact ⟨rfl, _, rfl⟩
                · obtain ⟨j, hj⟩ : ∃ j, k = j + 1 := ⟨k - 1, by omega⟩
                  obtain ⟨d0, hd0⟩ : ∃ d0, (cl xs j).d = d0 := ⟨_, rfl⟩
                  obtain ⟨p0, _, _, _⟩ := RD.out wr j (by omega) HB.out
                  rw [hd0] at p0
                  have HD0 := Lib.hid hd0
                  have bk : 0 < k := by omega
                  have i1 : IntKind.i64.wrap ((k : Int) - 1) = (j : Int) := by rw [show (k : Int) - 1 = j by omega]; exact IntWalk.i64_in _ (by omega)
                  have i3 : (0 : Int) ≤ (j : Int) := by omega
                  have i4 : (j : Int) < (xs.length : Int) := by omega
                  have NE : Hid (needs xs k = ((decide (d ≠ d0) || decide (1 < d)) || decide (d < 0))) := Lib.hid (by unfold needs; rw [HD.out, show k - 1 = j by omega, HD0.out, decide_eq_true (show 0 < k by omega), Bool.true_and])
                  clear hd0 hk0 hj
                  by_cases g0 : d = d0
                  · have b0 : (d != d0) = false := by simpa using g0
                    have NE2 : Hid (needs xs k = (decide (1 < d) || decide (d < 0))) := Lib.hid (by rw [NE.out, decide_eq_false (show ¬ d ≠ d0 from fun h => h g0)]; rfl)
                    clear g0
                    by_cases g1 : 1 < d
                    · have G : Hid (needs xs k = true) := Lib.hid (by rw [NE2.out, decide_eq_true g1]; simp)
                      go_wp2_with fail
                      go_quiet (fail)
                      go_wp2_with fail
                      go_meet
                      rw [G.out]
                      exact ⟨rfl, _, rfl⟩
                    · have b1 : decide (1 < d) = false := decide_eq_false g1
                      by_cases g2 : d < 0
                      · have G : Hid (needs xs k = true) := Lib.hid (by rw [NE2.out, decide_eq_true g2]; simp)
                        go_wp2_with fail
                        go_quiet (fail)
                        go_wp2_with fail
                        go_meet
                        rw [G.out]
                        exact ⟨rfl, _, rfl⟩
                      · have b2 : decide (d < 0) = false := decide_eq_false g2
                        have G : Hid (needs xs k = false) := Lib.hid (by rw [NE2.out, b1, b2]; rfl)
                        clear g1 g2
                        go_wp2_with fail
                        go_quiet (fail)
                        go_wp2_with fail
                        go_meet
                        rw [G.out]
                        exact ⟨rfl, _, rfl⟩
                  · have b0 : (d != d0) = true := by rw [bne_iff_ne]; exact g0
                    have G : Hid (needs xs k = true) := Lib.hid (by rw [NE.out, decide_eq_true g0]; simp)
                    clear g0
                    go_wp2_with fail
                    go_quiet (fail)
                    go_wp2_with fail
                    go_meet
                    rw [G.out]
                    exact ⟨rfl, _, rfl⟩
            case rest =>
              obtain ⟨rfl, mm, rfl⟩ := hcut
              have hFO := found_st xs xs.length k hlt
              have hUO := open_at xs k
              obtain ⟨g1, g2, g3, g4, g5⟩ := reader_facts xs xs.length k hlt
              rw [HT.out] at hFO g1 g2 g3
              obtain ⟨u, hu⟩ : ∃ u, ahead xs k (st xs k) = u := ⟨_, rfl⟩
              rw [hu] at hFO hUO g1 g4 g5
              rw [HD.out] at hUO
              obtain ⟨a, ha⟩ : ∃ a, pos u.l u.p = a := ⟨_, rfl⟩
              rw [ha] at g1 g4
              have hnext : st xs (k + 1) = after (cl xs k) u := by rw [← hu]; rfl
              have HU := Lib.hid hu
              have HA := Lib.hid ha
              have FO := Lib.hid hFO
              have HUO := Lib.hid hUO
              have HNx := Lib.hid hnext
              have HLe := Lib.hid g3
              have HaS : Hid (a ≤ 8 * S.size) := Lib.hid (by rw [HSz.out]; exact g1)
              have HpS : Hid (pos (st xs k).l (st xs k).p ≤ 8 * S.size) := Lib.hid (by rw [HSz.out]; exact g2)
              have G4 := Lib.hid g4
              have G5 := Lib.hid g5
              clear hu ha hFO hUO g1 g2 g3 g4 g5 hnext c0 c1 c2 c3
              by_cases hnd : needs xs k = true
              · rw [hnd]
                as_aux_lemma =>
                  go_wp2_with fail
                  refine (ralign_any M S (pos (st xs k).l (st xs k).p) (st xs k).o _ (by exact HR.out) (by have := HpS.out; have := HSz.out; have := HTl.out; omega)).mono ?_
                  rintro e wu ⟨rfl, hn⟩
                  have HBu : Hid (Below N w0 wu) := Lib.hid (Now.below (below_drewN HB.out mm) hn (by have := HZ.out; show N ≤ wr.heap.size; omega) (by omega))
                  have HZu : Hid (M + 1 ≤ wu.heap.size) := Lib.hid (Nat.le_trans HZ.out hn.1.size)
                  have HRu : Hid (Rd 51 wu M S a u.o) := Lib.hid (by have h := hn.2; rw [(G4.out hnd).1] at h; rw [(G4.out hnd).2]; exact h)
                  have HWu : Hid (Wr 60 N wu N r T (st xs xs.length).p (st xs xs.length).o) := Lib.hid (Wr.now (w := wr.drewN mm) HW.out hn (by omega) HrM.out)
                  clear hn
                  obtain ⟨c0, c1, c2, c3⟩ := RD.out wu k hlt HBu.out
                  rw [HD.out] at c0
                  rw [Hn.out] at c1
                  rw [Hv.out] at c2
                  rw [Hs.out] at c3
                  obtain ⟨nb, hnb⟩ : ∃ nb, numN n = nb := ⟨_, rfl⟩
                  obtain ⟨vb, hvb⟩ : ∃ vb, numV n v = vb := ⟨_, rfl⟩
                  have HNb24 : Hid (nb ≤ 24) := Lib.hid (by rw [← hnb]; exact Nat.le_of_lt_succ (numN_lt n))
                  have HNb := Lib.hid hnb
                  have HVb := Lib.hid hvb
                  clear hnb hvb
                  go_wp2_with fail
                  refine (num_c d n v s wu nb vb HNb.out HVb.out).mono ?_
                  rintro e wv ⟨rfl, hbv⟩
                  have HBv : Hid (Below N w0 wv) := Lib.hid (HBu.out.trans (hbv.mono (by have := HZu.out; omega)))
                  have HZv : Hid (M + 1 ≤ wv.heap.size) := Lib.hid (Nat.le_trans HZu.out hbv.size)
                  have HRv := Lib.hid (HRu.out.grown (grown_of_below hbv none) (by simp))
                  have HWv := Lib.hid (HWu.out.grown (grown_of_below hbv none) (by simp) (by cases r with | none => exact Or.inl rfl | some x => exact Or.inr (by simp)))
                  clear hbv c0 c1 c2 c3
                  obtain ⟨c0, c1, c2, c3⟩ := RD.out wv k hlt HBv.out
                  rw [HD.out] at c0
                  rw [Hn.out] at c1
                  rw [Hv.out] at c2
                  rw [Hs.out] at c3
                  by_cases hd0 : d = 0
                  · subst hd0
                    as_aux_lemma =>
                      obtain ⟨f1, f2, f3⟩ := FO.out.1 HD.out
                      rw [Hn.out, HNb.out] at f2 f3
                      rw [Hn.out, Hv.out, HVb.out, HNb.out, HA.out] at f1
                      rw [HA.out] at f2
                      rw [← HNx.out] at f2 f3
                      have hle := HLe.out
                      rw [f2] at hle
                      obtain ⟨q1, q2, q3, q4⟩ := read_num (tot := 8 * T.length) (HUO.out.2.1 rfl) HNb24.out hle f1
                      rw [← HSz.out, ← HSd.out] at q1
                      rw [← HSz.out] at q2 q3 q4
                      rw [← f3] at q4
                      have Q1 := Lib.hid q1
                      have Q2 := Lib.hid q2
                      have Q3 := Lib.hid q3
                      have Q4 := Lib.hid q4
                      have F2 := Lib.hid f2
                      clear q1 q2 q3 q4 f1 f2 f3 hle
                      go_wp2_with fail
                      refine (low_c M S a u.o nb vb 0 (a + nb) _ wv HRv.out HaS.out (by have := HSz.out; have := HTl.out; omega) Q1.out Q2.out Q3.out Q4.out).mono ?_
                      rintro e wx ⟨rfl, hn⟩
                      have HBx : Hid (Below N w0 wx) := Lib.hid (Now.below HBv.out hn (by have := HZv.out; omega) (by omega))
                      have HZx : Hid (M + 1 ≤ wx.heap.size) := Lib.hid (Nat.le_trans HZv.out hn.1.size)
                      have HRx := Lib.hid hn.2
                      have HWx := Lib.hid (HWv.out.now hn (by omega) HrM.out)
                      obtain ⟨x0, x1, x2, x3⟩ := RD.out wx k hlt HBx.out
                      rw [Hs.out] at x3
                      clear hn c0 c1 c2 c3 x0 x1 x2
                      go_wp2_with fail
                      go_roundw
                      case rel => exact ⟨k + 1, by omega, by go_num, HBx.out, HZx.out, by rw [F2.out]; exact HRx.out, HWx.out⟩
                      case measure => simp [intOf]; omega
                  by_cases hd1 : d = 1
                  · subst hd1
                    as_aux_lemma =>
                      obtain ⟨f1, f2, f3⟩ := FO.out.2.1 HD.out
                      rw [Hn.out, HNb.out] at f2 f3
                      rw [Hn.out, Hv.out, HVb.out, HNb.out, HA.out] at f1
                      rw [HA.out] at f2
                      rw [← HNx.out] at f2 f3
                      have hle := HLe.out
                      rw [f2] at hle
                      obtain ⟨q1, q2, q3, q4⟩ := read_num (tot := 8 * T.length) (HUO.out.2.2.1 rfl) HNb24.out hle f1
                      rw [← HSz.out, ← HSd.out] at q1
                      rw [← HSz.out] at q2 q3 q4
                      rw [← f3] at q4
                      have Q1 := Lib.hid q1
                      have Q2 := Lib.hid q2
                      have Q3 := Lib.hid q3
                      have Q4 := Lib.hid q4
                      have F2 := Lib.hid f2
                      clear q1 q2 q3 q4 f1 f2 f3 hle
                      go_wp2_with fail
                      refine (high_c M S a u.o nb vb 0 (a + nb) _ wv HRv.out HaS.out (by have := HSz.out; have := HTl.out; omega) Q1.out Q2.out Q3.out Q4.out).mono ?_
                      rintro e wx ⟨rfl, hn⟩
                      have HBx : Hid (Below N w0 wx) := Lib.hid (Now.below HBv.out hn (by have := HZv.out; omega) (by omega))
                      have HZx : Hid (M + 1 ≤ wx.heap.size) := Lib.hid (Nat.le_trans HZv.out hn.1.size)
                      have HRx := Lib.hid hn.2
                      have HWx := Lib.hid (HWv.out.now hn (by omega) HrM.out)
                      obtain ⟨x0, x1, x2, x3⟩ := RD.out wx k hlt HBx.out
                      rw [Hs.out] at x3
                      clear hn c0 c1 c2 c3 x0 x1 x2
                      go_wp2_with fail
                      go_roundw
                      case rel => exact ⟨k + 1, by omega, by go_num, HBx.out, HZx.out, by rw [F2.out]; exact HRx.out, HWx.out⟩
                      case measure => simp [intOf]; omega
                  by_cases hd3 : d = 3
                  · subst hd3
                    as_aux_lemma =>
                      obtain ⟨f0, f1, f2, f3⟩ := FO.out.2.2 HD.out
                      rw [Hs.out] at f1 f2
                      rw [← HNx.out] at f2 f3
                      rw [HA.out] at f2
                      have hle := HLe.out
                      rw [f2] at hle
                      have ha8 : a = 8 * u.l.length := by rw [← HA.out, f0]; unfold pos; rw [if_pos rfl]
                      have e1 : s.data.toList.length = s.size := by simp
                      have hbytes : rawE S.size a (s.size : Int) = 0 ∧ rawAt S.size a (s.size : Int) = a + 8 * s.size ∧ rawB S a (s.size : Int) = s := by
                        have hsz := HSz.out
                        obtain ⟨r1, r2, r3⟩ := raw_ok (s := S) (at_ := a) (n := (s.size : Int)) (by omega) (by omega) (by omega)
                        refine ⟨r1, r2.trans rfl, r3.trans ?_⟩
                        show S.extract (a / 8) (a / 8 + s.size) = s
                        rw [show a / 8 = u.l.length by omega]
                        exact extract_bytes (by omega) (by rw [HSd.out]; exact f1)
                      have Q := Lib.hid hbytes
                      have F2 := Lib.hid f2
                      have F3 := Lib.hid f3
                      clear f0 f1 f2 f3 hle ha8 e1 hbytes
                      go_wp2_with fail
                      refine (rraw_c M S s a u.o (s.size : Int) 0 (a + 8 * s.size) wv HRv.out HaS.out (by have := HSz.out; have := HTl.out; omega) Q.out.2.2 Q.out.1 Q.out.2.1).mono ?_
                      rintro e wx ⟨rfl, hn⟩
                      have HBx : Hid (Below N w0 wx) := Lib.hid (Now.below HBv.out hn (by have := HZv.out; omega) (by omega))
                      have HZx : Hid (M + 1 ≤ wx.heap.size) := Lib.hid (Nat.le_trans HZv.out hn.1.size)
                      have HRx := Lib.hid hn.2
                      have HWx := Lib.hid (HWv.out.now hn (by omega) HrM.out)
                      obtain ⟨x0, x1, x2, x3⟩ := RD.out wx k hlt HBx.out
                      rw [Hs.out] at x3
                      clear hn c0 c1 c2 c3 x0 x1 x2
                      go_wp2_with fail
                      go_roundw
                      case rel => exact ⟨k + 1, by omega, by go_num, HBx.out, HZx.out, by rw [F2.out, F3.out]; exact HRx.out, HWx.out⟩
                      case measure => simp [intOf]; omega
                  have q := afterX (c := cl xs k) (t := u) (by rw [HD.out]; exact hd0) (by rw [HD.out]; exact hd1) (by rw [HD.out]; exact hd3)
                  rw [← HNx.out] at q
                  have Q := Lib.hid q
                  have b0 : (d == 0) = false := by simpa using hd0
                  have b1 : (d == 1) = false := by simpa using hd1
                  have b3 : (d == 3) = false := by simpa using hd3
                  clear q hd0 hd1 hd3
                  go_wp2_with fail
                  go_roundw
                  case rel => exact ⟨k + 1, by omega, by go_num, HBv.out, HZv.out, by rw [Q.out, HA.out]; exact HRv.out, HWv.out⟩
                  case measure => simp [intOf]; omega
              · have hnf : needs xs k = false := by simpa using hnd
                as_aux_lemma =>
                  rw [hnf]
                  obtain ⟨wu, hwu⟩ : ∃ wu, wr.drewN mm = wu := ⟨_, rfl⟩
                  have HBu : Hid (Below N w0 wu) := Lib.hid (by rw [← hwu]; exact below_drewN HB.out mm)
                  have HZu : Hid (M + 1 ≤ wu.heap.size) := Lib.hid (by rw [← hwu]; exact HZ.out)
                  have HRu : Hid (Rd 51 wu M S a u.o) := Lib.hid (by rw [← HA.out, G5.out hnf, ← hwu]; exact HR.out)
                  have HWu : Hid (Wr 60 N wu N r T (st xs xs.length).p (st xs xs.length).o) := Lib.hid (by rw [← hwu]; exact HW.out)
                  rw [hwu]
                  clear hwu
                  obtain ⟨c0, c1, c2, c3⟩ := RD.out wu k hlt HBu.out
                  rw [HD.out] at c0
                  rw [Hn.out] at c1
                  rw [Hv.out] at c2
                  rw [Hs.out] at c3
                  obtain ⟨nb, hnb⟩ : ∃ nb, numN n = nb := ⟨_, rfl⟩
                  obtain ⟨vb, hvb⟩ : ∃ vb, numV n v = vb := ⟨_, rfl⟩
                  have HNb24 : Hid (nb ≤ 24) := Lib.hid (by rw [← hnb]; exact Nat.le_of_lt_succ (numN_lt n))
                  have HNb := Lib.hid hnb
                  have HVb := Lib.hid hvb
                  clear hnb hvb
                  go_wp2_with fail
                  refine (num_c d n v s wu nb vb HNb.out HVb.out).mono ?_
                  rintro e wv ⟨rfl, hbv⟩
                  have HBv : Hid (Below N w0 wv) := Lib.hid (HBu.out.trans (hbv.mono (by have := HZu.out; omega)))
                  have HZv : Hid (M + 1 ≤ wv.heap.size) := Lib.hid (Nat.le_trans HZu.out hbv.size)
                  have HRv := Lib.hid (HRu.out.grown (grown_of_below hbv none) (by simp))
                  have HWv := Lib.hid (HWu.out.grown (grown_of_below hbv none) (by simp) (by cases r with | none => exact Or.inl rfl | some x => exact Or.inr (by simp)))
                  clear hbv c0 c1 c2 c3
                  obtain ⟨c0, c1, c2, c3⟩ := RD.out wv k hlt HBv.out
                  rw [HD.out] at c0
                  rw [Hn.out] at c1
                  rw [Hv.out] at c2
                  rw [Hs.out] at c3
                  by_cases hd0 : d = 0
                  · subst hd0
                    as_aux_lemma =>
                      obtain ⟨f1, f2, f3⟩ := FO.out.1 HD.out
                      rw [Hn.out, HNb.out] at f2 f3
                      rw [Hn.out, Hv.out, HVb.out, HNb.out, HA.out] at f1
                      rw [HA.out] at f2
                      rw [← HNx.out] at f2 f3
                      have hle := HLe.out
                      rw [f2] at hle
                      obtain ⟨q1, q2, q3, q4⟩ := read_num (tot := 8 * T.length) (HUO.out.2.1 rfl) HNb24.out hle f1
                      rw [← HSz.out, ← HSd.out] at q1
                      rw [← HSz.out] at q2 q3 q4
                      rw [← f3] at q4
                      have Q1 := Lib.hid q1
                      have Q2 := Lib.hid q2
                      have Q3 := Lib.hid q3
                      have Q4 := Lib.hid q4
                      have F2 := Lib.hid f2
                      clear q1 q2 q3 q4 f1 f2 f3 hle
                      go_wp2_with fail
                      refine (low_c M S a u.o nb vb 0 (a + nb) _ wv HRv.out HaS.out (by have := HSz.out; have := HTl.out; omega) Q1.out Q2.out Q3.out Q4.out).mono ?_
                      rintro e wx ⟨rfl, hn⟩
                      have HBx : Hid (Below N w0 wx) := Lib.hid (Now.below HBv.out hn (by have := HZv.out; omega) (by omega))
                      have HZx : Hid (M + 1 ≤ wx.heap.size) := Lib.hid (Nat.le_trans HZv.out hn.1.size)
                      have HRx := Lib.hid hn.2
                      have HWx := Lib.hid (HWv.out.now hn (by omega) HrM.out)
                      obtain ⟨x0, x1, x2, x3⟩ := RD.out wx k hlt HBx.out
                      rw [Hs.out] at x3
                      clear hn c0 c1 c2 c3 x0 x1 x2
                      go_wp2_with fail
                      go_roundw
                      case rel => exact ⟨k + 1, by omega, by go_num, HBx.out, HZx.out, by rw [F2.out]; exact HRx.out, HWx.out⟩
                      case measure => simp [intOf]; omega
                  by_cases hd1 : d = 1
                  · subst hd1
                    as_aux_lemma =>
                      obtain ⟨f1, f2, f3⟩ := FO.out.2.1 HD.out
                      rw [Hn.out, HNb.out] at f2 f3
                      rw [Hn.out, Hv.out, HVb.out, HNb.out, HA.out] at f1
                      rw [HA.out] at f2
                      rw [← HNx.out] at f2 f3
                      have hle := HLe.out
                      rw [f2] at hle
                      obtain ⟨q1, q2, q3, q4⟩ := read_num (tot := 8 * T.length) (HUO.out.2.2.1 rfl) HNb24.out hle f1
                      rw [← HSz.out, ← HSd.out] at q1
                      rw [← HSz.out] at q2 q3 q4
                      rw [← f3] at q4
                      have Q1 := Lib.hid q1
                      have Q2 := Lib.hid q2
                      have Q3 := Lib.hid q3
                      have Q4 := Lib.hid q4
                      have F2 := Lib.hid f2
                      clear q1 q2 q3 q4 f1 f2 f3 hle
                      go_wp2_with fail
                      refine (high_c M S a u.o nb vb 0 (a + nb) _ wv HRv.out HaS.out (by have := HSz.out; have := HTl.out; omega) Q1.out Q2.out Q3.out Q4.out).mono ?_
                      rintro e wx ⟨rfl, hn⟩
                      have HBx : Hid (Below N w0 wx) := Lib.hid (Now.below HBv.out hn (by have := HZv.out; omega) (by omega))
                      have HZx : Hid (M + 1 ≤ wx.heap.size) := Lib.hid (Nat.le_trans HZv.out hn.1.size)
                      have HRx := Lib.hid hn.2
                      have HWx := Lib.hid (HWv.out.now hn (by omega) HrM.out)
                      obtain ⟨x0, x1, x2, x3⟩ := RD.out wx k hlt HBx.out
                      rw [Hs.out] at x3
                      clear hn c0 c1 c2 c3 x0 x1 x2
                      go_wp2_with fail
                      go_roundw
                      case rel => exact ⟨k + 1, by omega, by go_num, HBx.out, HZx.out, by rw [F2.out]; exact HRx.out, HWx.out⟩
                      case measure => simp [intOf]; omega
                  by_cases hd3 : d = 3
                  · subst hd3
                    as_aux_lemma =>
                      obtain ⟨f0, f1, f2, f3⟩ := FO.out.2.2 HD.out
                      rw [Hs.out] at f1 f2
                      rw [← HNx.out] at f2 f3
                      rw [HA.out] at f2
                      have hle := HLe.out
                      rw [f2] at hle
                      have ha8 : a = 8 * u.l.length := by rw [← HA.out, f0]; unfold pos; rw [if_pos rfl]
                      have e1 : s.data.toList.length = s.size := by simp
                      have hbytes : rawE S.size a (s.size : Int) = 0 ∧ rawAt S.size a (s.size : Int) = a + 8 * s.size ∧ rawB S a (s.size : Int) = s := by
                        have hsz := HSz.out
                        obtain ⟨r1, r2, r3⟩ := raw_ok (s := S) (at_ := a) (n := (s.size : Int)) (by omega) (by omega) (by omega)
                        refine ⟨r1, r2.trans rfl, r3.trans ?_⟩
                        show S.extract (a / 8) (a / 8 + s.size) = s
                        rw [show a / 8 = u.l.length by omega]
                        exact extract_bytes (by omega) (by rw [HSd.out]; exact f1)
                      have Q := Lib.hid hbytes
                      have F2 := Lib.hid f2
                      have F3 := Lib.hid f3
                      clear f0 f1 f2 f3 hle ha8 e1 hbytes
                      go_wp2_with fail
                      refine (rraw_c M S s a u.o (s.size : Int) 0 (a + 8 * s.size) wv HRv.out HaS.out (by have := HSz.out; have := HTl.out; omega) Q.out.2.2 Q.out.1 Q.out.2.1).mono ?_
                      rintro e wx ⟨rfl, hn⟩
                      have HBx : Hid (Below N w0 wx) := Lib.hid (Now.below HBv.out hn (by have := HZv.out; omega) (by omega))
                      have HZx : Hid (M + 1 ≤ wx.heap.size) := Lib.hid (Nat.le_trans HZv.out hn.1.size)
                      have HRx := Lib.hid hn.2
                      have HWx := Lib.hid (HWv.out.now hn (by omega) HrM.out)
                      obtain ⟨x0, x1, x2, x3⟩ := RD.out wx k hlt HBx.out
                      rw [Hs.out] at x3
                      clear hn c0 c1 c2 c3 x0 x1 x2
                      go_wp2_with fail
                      go_roundw
                      case rel => exact ⟨k + 1, by omega, by go_num, HBx.out, HZx.out, by rw [F2.out, F3.out]; exact HRx.out, HWx.out⟩
                      case measure => simp [intOf]; omega
                  have q := afterX (c := cl xs k) (t := u) (by rw [HD.out]; exact hd0) (by rw [HD.out]; exact hd1) (by rw [HD.out]; exact hd3)
                  rw [← HNx.out] at q
                  have Q := Lib.hid q
                  have b0 : (d == 0) = false := by simpa using hd0
                  have b1 : (d == 1) = false := by simpa using hd1
                  have b3 : (d == 3) = false := by simpa using hd3
                  clear q hd0 hd1 hd3
                  go_wp2_with fail
                  go_roundw
                  case rel => exact ⟨k + 1, by omega, by go_num, HBv.out, HZv.out, by rw [Q.out, HA.out]; exact HRv.out, HWv.out⟩
                  case measure => simp [intOf]; omega
          · obtain rfl : k = xs.length := by omega
            as_aux_lemma =>
              obtain ⟨z1, z2⟩ := pos_end (fit_st xs xs.length)
              rw [HT.out] at z1 z2
              have hrd := HR.out
              rw [HT.out] at hrd
              obtain ⟨a, ha⟩ : ∃ a, pos T (st xs xs.length).p = a := ⟨_, rfl⟩
              rw [ha] at z1 z2 hrd
              have hal : a ≤ 8 * S.size := by rw [← ha, HSz.out]; have h := pos_le (ext_st xs xs.length 0 xs.length (by omega)) (fit_st xs xs.length); rw [HT.out] at h; exact h
              obtain ⟨y, hy⟩ : ∃ y, 8 * S.size - a = y := ⟨_, rfl⟩
              have hy8 : y < 8 := by rw [← hy, HSz.out]; exact z2
              have HRd := Lib.hid hrd
              have Z1 := Lib.hid z1
              have HAl := Lib.hid hal
              have HY := Lib.hid hy
              clear z1 z2 hrd ha hal hy
              go_wp2_with fail
              refine (rat_c M S a T.length _ _ HRd.out (by have := HAl.out; have := HSz.out; have := HTl.out; omega) Z1.out).mono ?_
              rintro e w' ⟨rfl, rfl⟩
              go_wp2_with fail
              refine (wlen_any N N r T _ _ _ HW.out).mono ?_
              rintro e w' ⟨rfl, rfl⟩
              go_wp2_with fail
              refine (rleft_c M S a y _ _ HRd.out HAl.out (by have := HSz.out; have := HTl.out; omega) HY.out).mono ?_
              rintro e w' ⟨rfl, k2, rfl⟩
              go_wp2_with fail
              refine (lives_any _).mono ?_
              rintro e w9 ⟨rfl, hb⟩
              go_wp2_with fail
              go_ret
              exact ⟨rfl, (below_drewN HB.out k2).trans (hb.mono (by have := HZ.out; show N ≤ wr.heap.size; omega))⟩

theorem back_any (A : Option Addr) (cap : Nat) (xs : List Call) (w0 : World) (hx : Asked w0 A xs) :
    Calls Try.prog 5 #[.slice A xs.length cap] w0 fun e w' => e = .returned (.bool true) ∧ Below w0.heap.size w0 w' := by
  by_cases h2 : xs.length ≤ 60
  · exact back_short A cap xs w0 h2 hx
  · exact back_many A cap xs w0 (by omega)

/-! ### The row. -/
theorem bitBack_laidOut : laidOutB Try.prog = true := by kernel_rfl
theorem bitBack_own : ownKnob Try.prog.godebug = none := by kernel_rfl
theorem bitBack_types (t : TypeId) (ht : t ∈ Try.f5.params.toList) : Try.prog.readableRec t = true ∧ t < Try.prog.types.size := by
  rw [Try.params5] at ht
  simp only [List.mem_cons, List.not_mem_nil, or_false] at ht
  subst ht
  exact ⟨by kernel_rfl, of_decide_eq_true (by kernel_rfl)⟩
theorem bitBack_fn {H : Type} (ds' : List (DataW H)) (h : ds'.length = Try.f5.params.size) : Rows.bitBackSpec.fn H ds' = { results := [.lit (.bool true)], args := ds' } := by
  have h' : ds'.length = 1 := h.trans (by kernel_rfl)
  match ds', h' with
  | [_], _ => rfl

set_option maxRecDepth 100000 in
theorem bitBack_lifted (os : Os) (started : os.Started) (H : Type) (enc : TypeId × Value → H) :
    ReturnsInHanded {} Try.checked os 5 .any (Rows.bitBackSpec.pre6 enc Try.prog Try.f5 Rows.bitBackRow.domain false) (Rows.bitBackSpec.post enc Try.prog Try.f5 false true false false) := by
  refine returnsInHanded_of_change_shaped (C := Try.checked) bitBack_own started (by kernel_rfl) Try.func5
    (ChangeSpec.witness6 (enc := enc) (C := Try.checked) false ⟨#[], #[.slice none 0 0], []⟩ 8 (by kernel_rfl) (by kernel_rfl) (by kernel_rfl) (by kernel_rfl)) ?_
  intro W base args ds gs before hval0 hW hcnd0 _ hsh _
  have hval : ∀ (j : Nat) t v, Try.f5.params[j]? = some t → args[j]? = some v → Value.okWide Try.prog W .any base t v := hval0
  have hW' := hW
  obtain ⟨p, q, hA0, hV, rfl, hfz, hnd⟩ := hW
  have hA : DataW.TrodAll enc Try.prog W 0 (fun _ => true) true Try.f5.params.toList args.toList ds p := hA0
  rw [Try.params5] at hA hval
  obtain ⟨v0, vs0, d0, ds0, p0, q0, hargs, rfl, rfl, h0, r0⟩ := trodAll_cons hA
  obtain ⟨rfl, rfl, rfl⟩ := trodAll_nil r0
  obtain rfl : args = #[v0] := by cases args; simp_all
  obtain ⟨rfl, rfl⟩ := trodVars_none hV
  obtain ⟨A0, cap0, xs0, rfl, rd0⟩ := asked_of (hval 0 22 v0 rfl rfl) h0
  clear hA0 hval0
  refine (back_any A0 cap0 xs0 W rd0).mono fun e W' ⟨he, hb⟩ => ?_
  subst he
  exact ⟨_, rfl, post_keep bitBack_laidOut (fun t ht => bitBack_types t ht) rfl hW' (fun ds' hds => bitBack_fn ds' hds) (by kernel_rfl) Try.underlying4 hb⟩

theorem bitBack_holds : Rows.BitBackSaid :=
  OpenClaim.holds_of_wide 5 Try.f5 rfl rfl rfl rfl rfl rfl rfl ⟨rfl, rfl, rfl, rfl, rfl⟩ rfl rfl rfl rfl rfl (by kernel_rfl) Try.func5 (by kernel_rfl)
    (of_decide_eq_true (by kernel_rfl)) (by unfold Func.isWrapper; first | (rw [if_pos (by decide +kernel)]; kernel_rfl) | (rw [if_neg (by decide +kernel)]; exact ⟨rfl, rfl⟩))
    (fun os started H enc _ => bitBack_lifted os started H enc)
end Go.Proofs.Ytcgejhlhbokpiaa
