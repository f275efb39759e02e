/-
  code, the document's: Sign.
-/
import Derived.Test.YtbgechfmbogbpaaCodRs
namespace Go.Proofs.Ytbgechfmbogbpaa
open Go.RowKit Bt Cod

/-- How many of the first k lengths are j. -/
def cv (l : List Int) (k j : Nat) : Int := (cnt (l.take k) (j : Int) : Int)
theorem cv_zero (l : List Int) : ag (cv l 0) = #[.int .i64 0, .int .i64 0, .int .i64 0, .int .i64 0, .int .i64 0, .int .i64 0, .int .i64 0, .int .i64 0, .int .i64 0, .int .i64 0, .int .i64 0, .int .i64 0, .int .i64 0, .int .i64 0, .int .i64 0, .int .i64 0] := by
  rw [ag_congr (g := fun _ => 0) (fun n _ => by unfold cv; rw [List.take_zero, cnt_nil]; rfl)]
  rfl
theorem cv_step (l : List Int) {k x : Nat} (h : k < l.length) (h0 : l[k] = (x : Int)) : (ag (cv l k)).setIfInBounds x (.int .i64 (cv l k x + 1)) = ag (cv l (k + 1)) := by
  rw [ag_set]
  apply ag_congr
  intro n _
  show (if n = x then cv l k x + 1 else cv l k n) = cv l (k + 1) n
  unfold cv
  rw [take_snoc l h, cnt_snoc, h0]
  by_cases hn : n = x
  · subst hn
    rw [if_pos rfl, if_pos rfl]
    push_cast
    rfl
  · rw [if_neg hn, if_neg (by omega)]
    rfl
theorem cv_le (l : List Int) (hl : l.length ≤ 288) (k j : Nat) : 0 ≤ cv l k j ∧ cv l k j ≤ 288 := by
  have h1 := cnt_le (l.take k) (j : Int)
  have h2 : (l.take k).length ≤ l.length := by rw [List.length_take]; omega
  unfold cv
  omega
def fF (l : List Int) (i : Nat) : Nat := fst1 l i + tl l i
theorem fF_zero (l : List Int) : fF l 0 = 0 := rfl
theorem fF_dbl (l : List Int) (i : Nat) : fst1 l (i + 1) = 2 * fF l i := by
  rcases Nat.eq_zero_or_pos i with rfl | h
  · rfl
  · exact fst1_step l i h

set_option maxRecDepth 100000 in
set_option maxHeartbeats 8000000 in
theorem sign10 (A : Option Addr) (cap : Nat) (L : List Int) (s : ByteArray) (a : Nat) (w : World) (h : IAt w A L) (hc : chkE L = 0) (hs : s.size ≤ 1000000) (ha : a ≤ 8 * s.size) :
    Calls Try.prog 22 #[.slice A L.length cap, .string s, .int .i64 (a : Int)] w fun e w' =>
      e = .returned (.tuple #[.int .i64 (rdS L s.data.toList (8 * s.size) a (longK L 16) 0).1, .int .i64 ((rdS L s.data.toList (8 * s.size) a (longK L 16) 0).2.2 : Int), .int .i64 (rdS L s.data.toList (8 * s.size) a (longK L 16) 0).2.1]) ∧ Below w.heap.size w w' := by
  obtain ⟨hl, hr, _⟩ := chk_ok hc
  obtain ⟨N, hN⟩ : ∃ N, w.heap.size = N := ⟨_, rfl⟩
  have HA := Lib.hid (fun W (hb : Below N w W) => IAt.below h (by rw [hN]; exact hb))
  have HA0 := Lib.hid (show ∀ k (hk : k < L.length), ∃ b off : Nat, A = some ⟨b, off, none⟩ ∧ b < N ∧ w.cell? ⟨b, off + k, none⟩ = some (.int .i64 L[k]) from fun k hk => by rw [← hN]; exact h k hk)
  have HR := Lib.hid (fun k hk => range_at hr k hk)
  have HCV := Lib.hid (fun k j => cv_le L hl k j)
  have HCZ := Lib.hid (cv_zero L)
  have HMX := Lib.hid (show ∀ k (h : k < L.length), mxI (L.take (k + 1)) = max (mxI (L.take k)) L[k] from fun k h => take_all_mx L h)
  have HML := Lib.hid (show ∀ k, 0 ≤ mxI (L.take k) ∧ mxI (L.take k) ≤ 15 from fun k => ⟨mxI_nonneg _, mxI_le _ (by
    unfold rangeOk at hr ⊢
    rw [List.all_eq_true] at hr ⊢
    exact fun x hx => hr x (List.mem_of_mem_take hx))⟩)
  have HPl := Lib.hid (fun (m r : Nat) (hm : 0 < m) (hm2 : m ≤ 15) (hrk : r < tl L m) (W : World) (hb : Below N w W) => place10 A cap L m r W (HA.out W hb) hr hl hm hm2 hrk)
  have HBn := Lib.hid (fun (x : Nat) (W : World) (hx : 8 * s.size ≤ x) (hx2 : x ≤ 1000000000000) => bit10_no s x W hx hx2 hs)
  have HBk := Lib.hid (fun (x : Nat) (W : World) (hx : x < 8 * s.size) => bit10_ok s x W hx hs)
  have HM := Lib.hid (show mxI (L.take L.length) = (longK L 16 : Int) by rw [List.take_length]; exact mxI_long L hr)
  have HT := Lib.hid (show ∀ j : Nat, 0 < j → cv L L.length j = (tl L j : Int) from fun j hj => by unfold cv tl; rw [List.take_length, if_neg (by omega)])
  have HTL := Lib.hid (show ∀ j, tl L j ≤ 288 from fun j => Nat.le_trans (tl_le L j) hl)
  have hM15 := longK_lt L
  obtain ⟨M, hM⟩ : ∃ M, longK L 16 = M := ⟨_, rfl⟩
  obtain ⟨bl, hbl⟩ : ∃ bl, s.data.toList = bl := ⟨_, rfl⟩
  obtain ⟨tot, htot⟩ : ∃ tot, 8 * s.size = tot := ⟨_, rfl⟩
  rw [hM] at HM hM15 ⊢
  rw [hbl] at HBk ⊢
  rw [htot] at HBn HBk ha ⊢
  have htb : tot ≤ 8000000 := by omega
  obtain ⟨X1, X2, X3, hX⟩ : ∃ X1 X2 X3, rdS L bl tot a M 0 = (X1, X2, X3) := ⟨_, _, _, rfl⟩
  rw [hX]
  have HX := Lib.hid hX
  obtain ⟨n, hn⟩ : ∃ n, L.length = n := ⟨_, rfl⟩
  have HN := Lib.hid hn
  rw [hn] at HM HT HPl ⊢
  have hnb : (n : Int) ≤ 288 := by omega
  obtain ⟨V, hV⟩ : ∃ V, w.alloc (.cells #[.int .i64 0, .int .i64 0, .int .i64 0, .int .i64 0, .int .i64 0, .int .i64 0, .int .i64 0, .int .i64 0, .int .i64 0, .int .i64 0, .int .i64 0, .int .i64 0, .int .i64 0, .int .i64 0, .int .i64 0, .int .i64 0] 50) = V := ⟨_, rfl⟩
  have HV := Lib.hid (show Blk V N 50 (ag (cv L 0)) ∧ Below N w V from ⟨by rw [HCZ.out, ← hV, ← hN]; exact Blk.new _ _ _, by rw [← hV, ← hN]; exact (Below.refl _ w).alloc (Nat.le_refl _) _⟩)
  rw [hN]
  clear h hc hl hr hs hbl htot hX hn HCZ
  go_enter Try.func22, Try.ntmps22
  go_wp2_with fail
  try rw [hN]
  try rw [hV]
  clear hV hN
  go_loopw [10, 11] (fun mv iv wr => ∃ k : Nat, k ≤ n ∧ mv = .int .i64 (mxI (L.take k)) ∧ iv = .int .i64 (k : Int) ∧ Hid (Blk wr N 50 (ag (cv L k)) ∧ Below N w wr)) (fun _ iv _ => n - (intOf iv).toNat)
  case atStart => exact ⟨0, by omega, rfl, rfl, HV⟩
  case round =>
    clear HV
    obtain ⟨k, hk, rfl, rfl, HW⟩ := hrel
    by_cases hlt : k < n
    · have hkl : k < L.length := by rw [HN.out]; exact hlt
      have hik : (k : Int) < (n : Int) := by omega
      have hik0 : (0 : Int) ≤ (k : Int) := by omega
      obtain ⟨b, off, rfl, hbN, c00⟩ := HA0.out k hkl
      have c0 := (HW.out.2.cell (p := ⟨b, off + k, none⟩) hbN).trans c00
      have hne1 : ¬ b = N := by omega
      have hne2 : ¬ N = b := by omega
      clear c00 hbN
      have hx01 := HR.out k hkl
      obtain ⟨x, hx⟩ : ∃ x : Nat, L[k] = (x : Int) := ⟨L[k].toNat, by omega⟩
      have HS := Lib.hid (HMX.out k hkl)
      have HC := Lib.hid (cv_step L hkl hx)
      rw [hx] at c0 HS hx01
      obtain ⟨x3, x4⟩ := hx01
      have x2 : (x : Int) < 16 := by omega
      have a1 := (HW.out.1.cell x).trans (ag_at _ x (by omega))
      have z1 := HW.out.1.frozen x
      obtain ⟨y0, y1⟩ := HCV.out k x
      obtain ⟨m0, m1⟩ := HML.out k
      obtain ⟨y, hy⟩ : ∃ y, cv L k x = y := ⟨_, rfl⟩
      obtain ⟨m, hm⟩ : ∃ m, mxI (L.take k) = m := ⟨_, rfl⟩
      rw [hy] at a1 HC y0 y1
      rw [hm] at HS m0 m1 ⊢
      have HW2 := Lib.hid (show Blk (wr.setCell ⟨N, x, none⟩ (.int .i64 (y + 1))) N 50 (ag (cv L (k + 1))) ∧ Below N w (wr.setCell ⟨N, x, none⟩ (.int .i64 (y + 1))) from ⟨by
        have e := HW.out.1.set_ x (.int .i64 (y + 1))
        rw [HC.out] at e
        exact e, HW.out.2.setCell (by show N ≤ N; omega) _⟩)
      clear hx hy hm
      go_wp2_with fail
      go_roundw
      case rel => exact ⟨k + 1, by omega, by rw [HS.out]; congr 1; split <;> omega, by go_num, HW2⟩
      case measure => simp [intOf]; omega
    · obtain rfl : k = n := by omega
      rw [HM.out]
      clear HML HMX HCV HR hlt
      go_wp2_with fail
      go_loopw [2, 12, 13, 14] (fun av cv' fv' iv wr' => ∃ i : Nat, i ≤ M ∧ av = .int .i64 ((a + i : Nat) : Int) ∧ cv' = .int .i64 (wd bl a i : Int) ∧ fv' = .int .i64 (fF L i : Int) ∧ iv = .int .i64 ((i + 1 : Nat) : Int) ∧ Hid (Blk wr' N 50 (ag (cv L k)) ∧ Below N w wr' ∧ rdS L bl tot a (M - i) i = (X1, X2, X3) ∧ fF L i ≤ wd bl a i ∧ a + i ≤ tot)) (fun _ _ _ iv _ => M + 1 - (intOf iv).toNat)
      case atStart => exact ⟨0, by omega, rfl, rfl, rfl, rfl, Lib.hid ⟨HW.out.1, HW.out.2, HX.out, by rw [fF_zero]; exact Nat.zero_le _, ha⟩⟩
      case round =>
        clear HW HX
        obtain ⟨i, hi, rfl, rfl, rfl, rfl, HW⟩ := hrel
        have hat := HW.out.2.2.2.2
        have hwl := wd_lt bl a i
        have hpw : 2 ^ i ≤ 32768 := Nat.le_trans (Nat.pow_le_pow_right (by decide) (show i ≤ 15 by omega)) (by decide)
        have hfw := HW.out.2.2.2.1
        by_cases hlt : i < M
        · have hiM : ((i + 1 : Nat) : Int) ≤ (M : Int) := by omega
          obtain ⟨m, hm⟩ : ∃ m, M - i = m + 1 := ⟨M - i - 1, by omega⟩
          have hrd := HW.out.2.2.1
          rw [hm] at hrd
          unfold rdS at hrd
          by_cases hE : tot ≤ a + i
          · rw [if_pos hE] at hrd
            obtain ⟨rfl, rfl, rfl⟩ : X1 = 0 ∧ X2 = 4 ∧ X3 = a + i := by
              injection hrd with h1 h2
              injection h2 with h2 h3
              exact ⟨h1.symm, h2.symm, h3.symm⟩
            have HB := Lib.hid (fun W : World => HBn.out (a + i) W hE (by omega))
            obtain ⟨ai, hai⟩ : ∃ ai, a + i = ai := ⟨_, rfl⟩
            obtain ⟨c, hcc⟩ : ∃ c, wd bl a i = c := ⟨_, rfl⟩
            obtain ⟨f, hff⟩ : ∃ f, fF L i = f := ⟨_, rfl⟩
            rw [hai] at HB ⊢
            rw [hcc, hff]
            have HBW := Lib.hid HW.out.2.1
            have HAI := Lib.hid hai
            clear hai hcc hff hrd hm hE HW hat hwl hpw hfw
            go_wp2_with fail
            refine (HB.out _).mono ?_
            rintro e w1 ⟨rfl, rfl⟩
            go_wp2_with fail
            go_ret3
            exact ⟨by rw [HAI.out] <;> rfl, HBW.out⟩
          · rw [if_neg hE] at hrd
            have HB := Lib.hid (fun W : World => HBk.out (a + i) W (by omega))
            have hb2 := bitN_lt 1 bl (a + i)
            have hwd : wd bl a (i + 1) = 2 * wd bl a i + bitN 1 bl (a + i) := rfl
            have hfd := fF_dbl L i
            have hfe : fF L (i + 1) = fst1 L (i + 1) + tl L (i + 1) := rfl
            have htl := HTL.out (i + 1)
            have hPl := fun hrk : wd bl a (i + 1) - fst1 L (i + 1) < tl L (i + 1) => HPl.out (i + 1) (wd bl a (i + 1) - fst1 L (i + 1)) (by omega) (by omega) hrk
            have a1 : wr.cell? ⟨N, i + 1, none⟩ = some (.int .i64 (tl L (i + 1) : Int)) := by
              rw [← HT.out (i + 1) (by omega)]
              exact (HW.out.1.cell (i + 1)).trans (ag_at _ (i + 1) (by omega))
            have hi15 : i + 1 ≤ 15 := by omega
            obtain ⟨b, hb⟩ : ∃ b, bitN 1 bl (a + i) = b := ⟨_, rfl⟩
            obtain ⟨ai, hai⟩ : ∃ ai, a + i = ai := ⟨_, rfl⟩
            have hai1 : a + i + 1 = ai + 1 := by omega
            have hai2 : a + (i + 1) = ai + 1 := by omega
            rw [hb] at HB hb2 hwd
            rw [hai1] at hrd
            rw [hai] at HB hE hat ⊢
            obtain ⟨c, hcc⟩ : ∃ c, wd bl a i = c := ⟨_, rfl⟩
            obtain ⟨f, hff⟩ : ∃ f, fF L i = f := ⟨_, rfl⟩
            obtain ⟨t, htt⟩ : ∃ t, tl L (i + 1) = t := ⟨_, rfl⟩
            rw [hcc] at hwd hwl hfw ⊢
            rw [hff] at hfd hfw ⊢
            rw [htt] at hrd hfe htl hPl a1
            have hcb : c ≤ 32768 := by omega
            have hbI : ¬ (b : Int) < 0 := by omega
            have hb1 : (b : Int) ≤ 1 := by omega
            have hb0 : (0 : Int) ≤ (b : Int) := by omega
            have hc2e : 2 * c + b = wd bl a (i + 1) := hwd.symm
            have hf2e : 2 * f = fst1 L (i + 1) := hfd.symm
            obtain ⟨c2, hc2⟩ : ∃ c2, wd bl a (i + 1) = c2 := ⟨_, rfl⟩
            obtain ⟨f2, hf2⟩ : ∃ f2, fst1 L (i + 1) = f2 := ⟨_, rfl⟩
            rw [hc2] at hrd hPl hc2e
            rw [hf2] at hrd hPl hf2e hfe
            have HWD := Lib.hid hc2
            obtain ⟨j, hj⟩ : ∃ j, i + 1 = j := ⟨_, rfl⟩
            rw [hj] at a1 hiM hPl hrd hi15 hfe hai2 HWD ⊢
            have hjI : (j : Int) < 16 := by omega
            have hj0 : (0 : Int) ≤ (j : Int) := by omega
            have HAI := Lib.hid hai
            have HJ := Lib.hid hj
            have HWB := Lib.hid (show Below N w wr ∧ Blk wr N 50 (ag (cv L k)) from ⟨HW.out.2.1, HW.out.1⟩)
            have e1 : 2 * (c : Int) + (b : Int) = (c2 : Int) := by omega
            have e2 : 2 * (f : Int) = (f2 : Int) := by omega
            have hc2b : (c2 : Int) ≤ 70000 := by omega
            have hf2b : (f2 : Int) ≤ 70000 := by omega
            have hcI : (c : Int) ≤ 32768 := by omega
            have hfI : (f : Int) ≤ 32768 := by omega
            have htI : (t : Int) ≤ 288 := by omega
            have hff2 : f2 ≤ c2 := by omega
            have haiI : (ai : Int) ≤ 8000000 := by omega
            have HMi := Lib.hid (show M - j = m by omega)
            by_cases hT : c2 < f2 + t
            · rw [if_pos hT] at hrd
              have hTI : (c2 : Int) - (f2 : Int) < (t : Int) := by omega
              obtain ⟨sg, hsg⟩ : ∃ sg, (signsL L).getD (totK L j + (c2 - f2)) 0 = sg := ⟨_, rfl⟩
              have HPL : Hid (∀ W, Below N w W → Calls Try.prog 45 #[.slice A k cap, .int .i64 (j : Int), .int .i64 ((c2 : Int) - (f2 : Int))] W fun e w' => e = .returned (.int .i64 sg) ∧ W = w') := Lib.hid (fun W hb => by
                have h := hPl (by omega) W hb
                rw [hsg, show ((c2 - f2 : Nat) : Int) = (c2 : Int) - (f2 : Int) by omega] at h
                exact h)
              rw [show totK L j + c2 - f2 = totK L j + (c2 - f2) by omega, hsg] at hrd
              obtain ⟨rfl, rfl, rfl⟩ : X1 = sg ∧ X2 = 0 ∧ X3 = ai + 1 := by
                injection hrd with h1 h2
                injection h2 with h2 h3
                exact ⟨h1.symm, h2.symm, h3.symm⟩
              clear hrd hPl hsg hT hcc hff htt hc2 hf2 hj hai hai1 hai2 HW hE hm hwd hfd hfe hwl hfw hpw hat hc2e hf2e htl hcb hff2 HMi hb hb2
              go_wp2_with fail
              refine (HB.out _).mono ?_
              rintro e w1 ⟨rfl, kd, rfl⟩
              have a2 : (wr.drewN kd).cell? ⟨N, j, none⟩ = some (.int .i64 (t : Int)) := a1
              go_wp2_with (rw [e1])
              refine (HPL.out _ (below_drewN HWB.out.1 kd)).mono ?_
              rintro e w2 ⟨rfl, rfl⟩
              go_wp2_with fail
              go_ret3
              exact ⟨by push_cast; rfl, below_drewN HWB.out.1 kd⟩
            · rw [if_neg hT] at hrd
              have hTI : ¬ (c2 : Int) - (f2 : Int) < (t : Int) := by omega
              have HRel : Hid (rdS L bl tot a (M - j) j = (X1, X2, X3) ∧ fF L j ≤ c2 ∧ a + j ≤ tot) := Lib.hid ⟨by rw [HMi.out, ← hj]; rw [← hj] at hrd; exact hrd, by rw [hfe]; omega, by omega⟩
              have HF := Lib.hid (show ((fF L j : Nat) : Int) = (f2 : Int) + (t : Int) by rw [hfe]; push_cast; omega)
              have HA1 := Lib.hid (show ((a + j : Nat) : Int) = (ai : Int) + 1 by omega)
              have HMj := Lib.hid (show j ≤ M by omega)
              have HMj2 := Lib.hid (show M + 1 - (j + 1) < M + 1 - j by omega)
              clear hrd hPl hT hcc hff htt hc2 hf2 hj hai hai1 hai2 HW hE hm hwd hfd hfe hwl hfw hpw hat hc2e hf2e htl hcb hff2 HMi hb hb2
              go_wp2_with fail
              refine (HB.out _).mono ?_
              rintro e w1 ⟨rfl, kd, rfl⟩
              have a2 : (wr.drewN kd).cell? ⟨N, j, none⟩ = some (.int .i64 (t : Int)) := a1
              go_wp2_with (rw [e1])
              go_roundw
              case rel => exact ⟨j, HMj.out, by rw [HA1.out] <;> rfl, by rw [HWD.out] <;> rfl, by rw [HF.out] <;> rfl, by go_num, Lib.hid ⟨Blk.drewN HWB.out.2 kd, below_drewN HWB.out.1 kd, HRel.out.1, by rw [HWD.out]; exact HRel.out.2.1, HRel.out.2.2⟩⟩
              case measure => simp [intOf]; omega
        · obtain rfl : i = M := by omega
          have hrd := HW.out.2.2.1
          rw [Nat.sub_self] at hrd
          unfold rdS at hrd
          obtain ⟨rfl, rfl, rfl⟩ : X1 = 0 ∧ X2 = 13 ∧ X3 = a + i := by
            injection hrd with h1 h2
            injection h2 with h2 h3
            exact ⟨h1.symm, h2.symm, h3.symm⟩
          obtain ⟨ai, hai⟩ : ∃ ai, a + i = ai := ⟨_, rfl⟩
          obtain ⟨c, hcc⟩ : ∃ c, wd bl a i = c := ⟨_, rfl⟩
          obtain ⟨f, hff⟩ : ∃ f, fF L i = f := ⟨_, rfl⟩
          rw [hai, hcc, hff]
          have HBW := Lib.hid HW.out.2.1
          have HAI := Lib.hid hai
          have hiI : ¬ ((i + 1 : Nat) : Int) ≤ (i : Int) := by omega
          clear hai hcc hff hrd HW hat hwl hpw hfw
          go_wp2_with fail
          go_ret3
          exact ⟨by first | rfl | (rw [HAI.out] <;> rfl) | (rw [← HAI.out] <;> rfl), HBW.out⟩
end Go.Proofs.Ytbgechfmbogbpaa
