/-
  The document's Text.
-/
import Derived.Test.YtkcnhdponcbjaaaHntQd
import Derived.Deep.RegionHeld3
namespace Go.Proofs.Ytkcnhdponcbjaaa
open Go.RowKit Bt Hnt

theorem two16i : (2 : Int) ^ (16 : Int).toNat = 65536 := rfl
theorem head_two {v : Int} (h0 : 0 ≤ v) (h1 : v < 65536) (st : St) : putLong st v = put (put st 0 16) v 16 := by
  unfold putLong
  rw [show v / 65536 = 0 by omega, show v % 65536 = v by omega]

set_option maxRecDepth 100000 in
set_option maxHeartbeats 8000000 in
theorem qtextT_ok (A : Option Addr) (cap : Nat) (l : List H3) (w : World) (h : HAt w A l) (hE : textE l = 0) :
    Calls Try.prog 10 #[.slice A l.length cap] w fun e w' => e = .returned (.tuple #[.string ⟨(textB l).toArray⟩, .int .i64 0]) ∧ Below w.heap.size w w' := by
  obtain ⟨hne, hl, hok⟩ := textE_zero hE
  have hfin := qtext_eq hok hne hl
  rw [textB_zero hE, ← hfin]
  have hn0 : 0 < l.length := List.length_pos_iff.2 hne
  obtain ⟨N, hN⟩ : ∃ N, w.heap.size = N := ⟨_, rfl⟩
  have HW := Lib.hid (why_any A cap l w h (by omega))
  rw [hE] at HW
  have HBd := Lib.hid (fun (c : Nat) (hc : c < 3) (W : World) (hA : HAt W A l) => bounds_any A cap l c W hA hn0 hc (by omega))
  have HPt := Lib.hid (fun (x y z : Int) (c : Nat) (hc : c < 3) (W : World) => part_any x y z c hc W)
  have HLst := Lib.hid (fun (c : Nat) (hc : c < 3) => lst_in hok hne hc)
  have HMst := Lib.hid (fun (c : Nat) (hc : c < 3) => mst_in hok hne hc)
  have HWdt := Lib.hid (fun (c : Nat) (hc : c < 3) => wdt_le hok hne hc)
  have HDif := Lib.hid (fun (k : Nat) (hk : k < l.length) (c : Nat) => diff_in (List.getElem_mem hk) c)
  have HGh := Lib.hid (fun (j : Nat) (hj : j ≤ 3) => (show good (hdS l j) ∧ (hdS l j).1.length ≤ 800000 from ⟨good_hd hok hne hl j hj, by have := hd_len l j; omega⟩))
  have HGw := Lib.hid (fun (j : Nat) (hj : j ≤ 3) => (show good (wdS l j) ∧ (wdS l j).1.length ≤ 800000 from ⟨good_wd hok hne hl j hj, by have := wd_len l j; omega⟩))
  have HGc := Lib.hid (fun (c k : Nat) (hc : c < 3) (hk : k ≤ l.length) => (show good (colS c (lst c l) (wdt c l) l (aln (qcolS l c)) k) ∧ (colS c (lst c l) (wdt c l) l (aln (qcolS l c)) k).1.length ≤ 800000 from ⟨good_col hok hne hc (good_aln _) k hk, by
    have h1 := col_len c (lst c l) (wdt c l) l (aln (qcolS l c)) k
    have h2 := qcol_len l c
    have h3 : (aln (qcolS l c)).1.length = (qcolS l c).1.length := rfl
    have h4 : 24 * l.length * c ≤ 24 * 2048 * 3 := Nat.mul_le_mul (by omega) (by omega)
    omega⟩))
  have HP1 := Lib.hid (head_two (v := (l.length : Int)) (by omega) (by omega) st0)
  have HA := Lib.hid h
  obtain ⟨n, hn⟩ : ∃ n, l.length = n := ⟨_, rfl⟩
  have HNl := Lib.hid hn
  have HS := Lib.hid hN
  obtain ⟨Z, hZ⟩ : ∃ Z, Z = aln (qcolS l 3) := ⟨_, rfl⟩
  have HZ := Lib.hid hZ
  rw [hN] at HW ⊢
  rw [hn] at HW HBd hl ⊢
  rw [← hZ]
  clear hn hN hE hok hne hn0 h hfin hZ
  go_enter Try.func10, Try.ntmps10
  go_wp2_with fail
  refine HW.out.mono ?_
  rintro e w1 ⟨rfl, hb⟩
  have HB1 := Lib.hid (show Below N w w1 ∧ N ≤ w1.heap.size from ⟨hb, by have := hb.size; rw [HS.out] at this; exact this⟩)
  have HA1 := Lib.hid (HA.out.below (HS.out ▸ hb))
  clear hb
  go_wp2_with fail
  refine (vnew_any w1.heap.size w1 (Nat.le_refl _)).mono ?_
  rintro e W2 ⟨rfl, hg2, hW2, hs2⟩
  obtain ⟨g, hg⟩ : ∃ g, w1.heap.size = g := ⟨_, rfl⟩
  rw [hg] at hW2 hs2 ⊢
  have HQ0 := Lib.hid (show QroteS g W2 g st0 W2 from Wrote.same hW2)
  have HgW := Lib.hid (show g ≤ W2.heap.size by omega)
  have HNg := Lib.hid (show N ≤ g by rw [← hg]; exact HB1.out.2)
  have hb2 : Below g w1 W2 := ⟨hg2.os, hg2.tape, hg2.output, hg2.size, fun k hk => hg2.block k (by rw [hg]; exact hk) (by simp)⟩
  have HBq := Lib.hid (fun (st : St) (x : World) (hq : QroteS g W2 g st x) => (show Below N w x from HB1.out.1.trans ((hb2.trans (hq.below (Nat.le_refl _) HgW.out)).mono HNg.out)))
  have HAq := Lib.hid (fun (st : St) (x : World) (hq : QroteS g W2 g st x) => (show HAt x A l from HA1.out.below (by rw [hg]; exact hb2.trans (hq.below (Nat.le_refl _) HgW.out))))
  have HPut := Lib.hid (fun (st : St) (v m : Int) (x : World) (hq : QroteS g W2 g st x) => qput_any g g st v m W2 x HgW.out hq)
  clear hg2 hW2 hs2 hb2 hg
  go_wp2_with fail
  refine (HPut.out st0 0 16 _ HQ0.out good0 (by decide) (by omega) (by omega) (by omega) (by decide)).mono ?_
  rintro e w3 ⟨rfl, hq⟩
  have HQ1 := Lib.hid hq
  clear hq
  go_wp2_with fail
  refine (HPut.out _ (n : Int) 16 _ HQ1.out (good_put good0 (by omega) (by omega) (by omega) (by decide)) (by have := put_len st0 0 16; have e0 : st0.1.length = 0 := rfl; omega) (by omega) (by omega) (by omega) (by rw [two16i]; omega)).mono ?_
  rintro e w4 ⟨rfl, hq⟩
  have HQ2 := Lib.hid (show QroteS g W2 g (hdS l 0) w4 by
    have e : hdS l 0 = putLong st0 (l.length : Int) := rfl
    rw [e, HP1.out, HNl.out]
    exact hq)
  clear hq
  go_wp2_with fail
  clear HQ0 HQ1
  go_loopw [6] (fun kv wr => ∃ k : Nat, k ≤ 3 ∧ kv = .int .i64 (k : Int) ∧ Hid (QroteS g W2 g (hdS l k) wr)) (fun kv _ => 3 - (intOf kv).toNat)
  case atStart => exact ⟨0, by omega, rfl, HQ2⟩
  case round =>
    clear HQ2
    obtain ⟨k, hk, rfl, HQ⟩ := hrel
    by_cases hlt : k < 3
    · have hik : (k : Int) < 3 := by omega
      have HBk := Lib.hid (HBd.out k hlt wr (HAq.out _ _ HQ.out))
      obtain ⟨v0, v1⟩ := HLst.out k hlt
      have HG := Lib.hid (HGh.out k (by omega))
      have HNx := Lib.hid (show hdS l (k + 1) = putLong (hdS l k) (lst k l) from rfl)
      obtain ⟨v, hv⟩ : ∃ v, lst k l = v := ⟨_, rfl⟩
      rw [hv] at HBk v0 v1 HNx
      obtain ⟨u, hu⟩ : ∃ u, v / 65536 = u := ⟨_, rfl⟩
      obtain ⟨r, hr⟩ : ∃ r, v % 65536 = r := ⟨_, rfl⟩
      have HU := Lib.hid (show 0 ≤ u ∧ u < 65536 by omega)
      have HR := Lib.hid (show 0 ≤ r ∧ r < 65536 by omega)
      have HNy := Lib.hid (show hdS l (k + 1) = put (put (hdS l k) u 16) r 16 by rw [HNx.out]; unfold putLong; rw [hu, hr])
      have t1 : v.tdiv 65536 = u := by rw [Int.tdiv_eq_ediv_of_nonneg v0]; exact hu
      have t2 : v.tmod 65536 = r := by rw [Int.tmod_eq_emod_of_nonneg v0]; exact hr
      obtain ⟨u0, u1⟩ := HU.out
      obtain ⟨r0, r1⟩ := HR.out
      have HGp := Lib.hid (show good (put (hdS l k) u 16) ∧ (put (hdS l k) u 16).1.length ≤ 900000 from ⟨good_put HG.out.1 u0 (by omega) (by omega) (by rw [two16i]; exact u1), by have h1 := put_len (hdS l k) u 16; have h2 := HG.out.2; omega⟩)
      clear hv hu hr v0 v1
      go_wp2_with fail
      refine HBk.out.mono ?_
      rintro e x1 ⟨rfl, hb⟩
      have HQa := Lib.hid (HQ.out.more hb)
      clear hb
      go_wp2_with fail
      refine (HPut.out _ u 16 _ HQa.out HG.out.1 (by have := HG.out.2; omega) u0 (by omega) (by omega) (by rw [two16i]; exact u1)).mono ?_
      rintro e x2 ⟨rfl, hq⟩
      have HQb := Lib.hid hq
      clear hq
      go_wp2_with fail
      refine (HPut.out _ r 16 _ HQb.out HGp.out.1 HGp.out.2 r0 (by omega) (by omega) (by rw [two16i]; exact r1)).mono ?_
      rintro e x3 ⟨rfl, hq⟩
      have HQc := Lib.hid (show QroteS g W2 g (hdS l (k + 1)) x3 by rw [HNy.out]; exact hq)
      clear hq
      go_wp2_with fail
      go_roundw
      case rel => exact ⟨k + 1, by omega, by go_num, HQc⟩
      case measure => simp [intOf]; omega
    · obtain rfl : k = 3 := by omega
      rw [show ((3 : Nat) : Int) = 3 from rfl]
      have HQ3 := Lib.hid (show QroteS g W2 g (wdS l 0) wr from HQ.out)
      clear HQ
      go_wp2_with fail
      go_loopw [9] (fun kv wr => ∃ k : Nat, k ≤ 3 ∧ kv = .int .i64 (k : Int) ∧ Hid (QroteS g W2 g (wdS l k) wr)) (fun kv _ => 3 - (intOf kv).toNat)
      case atStart => exact ⟨0, by omega, rfl, HQ3⟩
      case round =>
        clear HQ3
        obtain ⟨k, hk, rfl, HQ⟩ := hrel
        by_cases hlt : k < 3
        · have hik : (k : Int) < 3 := by omega
          have HBk := Lib.hid (HBd.out k hlt _ (HAq.out _ _ HQ.out))
          obtain ⟨v0, v1⟩ := HLst.out k hlt
          obtain ⟨m0, m1⟩ := HMst.out k hlt
          have HG := Lib.hid (HGw.out k (by omega))
          have HNx := Lib.hid (show wdS l (k + 1) = put (wdS l k) (wdt k l : Nat) 16 from rfl)
          have HWk := Lib.hid (HWdt.out k hlt)
          have HNd := Lib.hid (fun W : World => qneed_any (mst k l - lst k l) W (by omega) (by omega))
          rw [show needN (mst k l - lst k l) = wdt k l from rfl] at HNd
          obtain ⟨v, hv⟩ : ∃ v, lst k l = v := ⟨_, rfl⟩
          obtain ⟨m, hm⟩ : ∃ v, mst k l = v := ⟨_, rfl⟩
          obtain ⟨d, hd⟩ : ∃ d, wdt k l = d := ⟨_, rfl⟩
          rw [hv, hm] at HBk HNd
          rw [hv] at v0 v1
          rw [hm] at m0 m1
          rw [hd] at HNd HNx HWk
          clear hv hm hd
          go_wp2_with fail
          refine HBk.out.mono ?_
          rintro e x1 ⟨rfl, hb⟩
          have HQa := Lib.hid (HQ.out.more hb)
          clear hb
          go_wp2_with fail
          refine (HNd.out _).mono ?_
          rintro e x2 ⟨rfl, rfl⟩
          go_wp2_with fail
          refine (HPut.out _ (d : Int) 16 _ HQa.out HG.out.1 (by have := HG.out.2; omega) (by omega) (by omega) (by omega) (by rw [two16i]; have := HWk.out; omega)).mono ?_
          rintro e x3 ⟨rfl, hq⟩
          have HQc := Lib.hid (show QroteS g W2 g (wdS l (k + 1)) x3 by rw [HNx.out]; exact hq)
          clear hq
          go_wp2_with fail
          go_roundw
          case rel => exact ⟨k + 1, by omega, by go_num, HQc⟩
          case measure => simp [intOf]; omega
        · obtain rfl : k = 3 := by omega
          have HQ4 := Lib.hid (show QroteS g W2 g (qcolS l 0) _ from HQ.out)
          rw [show ((3 : Nat) : Int) = 3 from rfl]
          clear HQ
          go_wp2_with fail
          go_loopw [12] (fun kv wr => ∃ k : Nat, k ≤ 3 ∧ kv = .int .i64 (k : Int) ∧ Hid (QroteS g W2 g (qcolS l k) wr)) (fun kv _ => 3 - (intOf kv).toNat)
          case atStart => exact ⟨0, by omega, rfl, HQ4⟩
          case round =>
            clear HQ4
            obtain ⟨c, hc, rfl, HQ⟩ := hrel
            by_cases hlt : c < 3
            · have hik : (c : Int) < 3 := by omega
              have HBk := Lib.hid (HBd.out c hlt _ (HAq.out _ _ HQ.out))
              obtain ⟨v0, v1⟩ := HLst.out c hlt
              obtain ⟨m0, m1⟩ := HMst.out c hlt
              have HWk := Lib.hid (HWdt.out c hlt)
              have HDf := Lib.hid (fun (j : Nat) (hj : j < l.length) => HDif.out j hj c)
              have HLe := Lib.hid (fun (j : Nat) (hj : j < l.length) => lst_le (List.getElem_mem hj) c)
              have HG := Lib.hid (fun (j : Nat) (hj : j ≤ l.length) => HGc.out c j hlt hj)
              have HNx := Lib.hid (fun (j : Nat) (hj : j < l.length) => (show colS c (lst c l) (wdt c l) l (aln (qcolS l c)) (j + 1) = put (colS c (lst c l) (wdt c l) l (aln (qcolS l c)) j) (clm c l[j] - lst c l) (wdt c l : Nat) by
                rw [← getD_in hj]
                rfl))
              have HEnd := Lib.hid (show qcolS l (c + 1) = colS c (lst c l) (wdt c l) l (aln (qcolS l c)) l.length from rfl)
              have HNd := Lib.hid (fun W : World => qneed_any (mst c l - lst c l) W (by omega) (by omega))
              rw [show needN (mst c l - lst c l) = wdt c l from rfl] at HNd
              have HAn := Lib.hid (qalign_any' g g (qcolS l c) W2)
              obtain ⟨S0, hS0⟩ : ∃ S, aln (qcolS l c) = S := ⟨_, rfl⟩
              obtain ⟨v, hv⟩ : ∃ v, lst c l = v := ⟨_, rfl⟩
              obtain ⟨m, hm⟩ : ∃ v, mst c l = v := ⟨_, rfl⟩
              obtain ⟨d, hd⟩ : ∃ d, wdt c l = d := ⟨_, rfl⟩
              rw [hS0] at HAn HEnd
              simp only [hS0, hv, hd] at HG HNx HDf
              simp only [hv, hm] at HLe
              rw [hv, hd] at HEnd
              rw [hv, hm] at HBk HNd
              rw [hv] at v0 v1
              rw [hm] at m0 m1
              rw [hd] at HNd HWk
              have hd0 := HWk.out
              clear hv hm hd hS0
              go_wp2_with fail
              refine HBk.out.mono ?_
              rintro e x1 ⟨rfl, hb⟩
              have HQa := Lib.hid (HQ.out.more hb)
              clear hb
              go_wp2_with fail
              refine (HAn.out _ HQa.out).mono ?_
              rintro e x2 ⟨rfl, hq⟩
              have HQb := Lib.hid (show QroteS g W2 g (colS c v d l S0 0) x2 from hq)
              clear hq
              go_wp2_with fail
              go_loopw [77] (fun iv wr => ∃ j : Nat, j ≤ n ∧ iv = .int .i64 (j : Int) ∧ Hid (QroteS g W2 g (colS c v d l S0 j) wr)) (fun iv _ => n - (intOf iv).toNat)
              case atStart => exact ⟨0, by omega, rfl, HQb⟩
              case round =>
                clear HQb HQa
                obtain ⟨j, hj, rfl, HQ⟩ := hrel
                by_cases hjl : j < n
                · have hjk : j < l.length := by rw [HNl.out]; exact hjl
                  have hij : (j : Int) < (n : Int) := by omega
                  have hij0 : (0 : Int) ≤ (j : Int) := by omega
                  obtain ⟨b, off, hAe, _, c0, c1, c2⟩ := HAq.out _ _ HQ.out j hjk
                  have hAe2 := Lib.hid hAe
                  obtain ⟨f0, f1⟩ := HDf.out j hjk
                  have HGj := Lib.hid (HG.out j (by omega))
                  have HNj := Lib.hid (HNx.out j hjk)
                  obtain ⟨p, hp⟩ : ∃ p, clm c l[j] = p := ⟨_, rfl⟩
                  have HPp := Lib.hid (fun W : World => part_any l[j].1 l[j].2.1 l[j].2.2 c hlt W)
                  rw [show clm c (l[j].1, l[j].2.1, l[j].2.2) = p from hp] at HPp
                  rw [hp] at f0 f1 HNj
                  obtain ⟨x, hx⟩ : ∃ x, l[j].1 = x := ⟨_, rfl⟩
                  obtain ⟨y, hy⟩ : ∃ x, l[j].2.1 = x := ⟨_, rfl⟩
                  obtain ⟨z, hz⟩ : ∃ x, l[j].2.2 = x := ⟨_, rfl⟩
                  rw [hx, hy, hz] at HPp
                  rw [hx] at c0
                  rw [hy] at c1
                  rw [hz] at c2
                  have HF1 := Lib.hid (show p - v < 2 ^ ((d : Nat) : Int).toNat by rw [two_nat]; exact f1)
                  have f2 : v ≤ p ∧ p ≤ m := by
                    have := HLe.out j hjk
                    rw [hp] at this
                    exact this
                  obtain ⟨f2, f3⟩ := f2
                  clear hx hy hz hp hAe f1
                  obtain ⟨gg, hgg⟩ : ∃ gg, wr.heap.size = gg := ⟨_, rfl⟩
                  obtain ⟨W4, hW4⟩ : ∃ W4, wr.alloc (.cells #[.int .i64 x, .int .i64 y, .int .i64 z] 35) = W4 := ⟨_, rfl⟩
                  have HQ4 := Lib.hid (show QroteS g W2 g (colS c v d l S0 j) W4 by rw [← hW4]; exact HQ.out.more ((Below.refl _ wr).alloc (Nat.le_refl _) _))
                  have HG4 := Lib.hid (show Blk W4 gg 35 #[.int .i64 x, .int .i64 y, .int .i64 z] by rw [← hW4, ← hgg]; exact Blk.new _ _ _)
                  have hA3 := hAe2.out
                  subst hA3
                  go_upto_region 26 with fail
                  try rw [hW4]
                  try rw [hgg]
                  clear hW4 hgg c0 c1 c2
                  have d0 := HG4.out.cell 0
                  have d1 := HG4.out.cell 1
                  have d2 := HG4.out.cell 2
                  simp only [List.getElem?_toArray, List.getElem?_cons_zero, List.getElem?_cons_succ] at d0 d1 d2
                  go_wp2_with fail
                  refine (HPp.out _).mono ?_
                  rintro e x5 ⟨rfl, hb⟩
                  have HQ5 := Lib.hid (HQ4.out.more hb)
                  clear hb d0 d1 d2
                  go_wp2_with fail
                  refine (HNd.out _).mono ?_
                  rintro e x6 ⟨rfl, rfl⟩
                  go_wp2_with fail
                  refine (HPut.out _ (p - v) (d : Int) _ HQ5.out HGj.out.1 (by have := HGj.out.2; omega) f0 (by omega) (by omega) HF1.out).mono ?_
                  rintro e x7 ⟨rfl, hq⟩
                  have HQ7 := Lib.hid (show QroteS g W2 g (colS c v d l S0 (j + 1)) x7 by rw [HNj.out]; exact hq)
                  clear hq
                  go_wp2_with fail
                  go_roundw
                  case rel => exact ⟨j + 1, by omega, by go_num, HQ7⟩
                  case measure => simp [intOf]; omega
                · obtain rfl : j = n := by omega
                  have HQe := Lib.hid (show QroteS g W2 g (qcolS l (c + 1)) _ by rw [HEnd.out, HNl.out]; exact HQ.out)
                  clear HQ
                  go_wp2_with fail
                  go_roundw
                  case rel => exact ⟨c + 1, by omega, by go_num, HQe⟩
                  case measure => simp [intOf]; omega
            · obtain rfl : c = 3 := by omega
              go_wp2_with fail
              refine (qalign_any' g g _ W2 _ HQ.out).mono ?_
              rintro e x1 ⟨rfl, hq⟩
              have HQf := Lib.hid (show QroteS g W2 g Z x1 by rw [HZ.out]; exact hq)
              clear hq HQ
              go_wp2_with fail
              refine (qtext_any g g _ W2 _ HQf.out).mono ?_
              rintro e x2 ⟨rfl, rfl⟩
              go_wp2_with fail
              go_ret2
              exact ⟨rfl, HBq.out _ _ HQf.out⟩
set_option maxRecDepth 100000 in
set_option maxHeartbeats 2000000 in
theorem qtextT_any (A : Option Addr) (cap : Nat) (l : List H3) (w : World) (h : HAt w A l) (hl : l.length ≤ 1000000000) :
    Calls Try.prog 10 #[.slice A l.length cap] w fun e w' => e = .returned (.tuple #[.string ⟨(textB l).toArray⟩, .int .i64 (textE l)]) ∧ Below w.heap.size w w' := by
  by_cases h0 : textE l = 0
  · rw [h0]
    exact qtextT_ok A cap l w h h0
  · have HW := Lib.hid (why_any A cap l w h hl)
    rw [textB_no h0]
    obtain ⟨E, hE⟩ : ∃ E, textE l = E := ⟨_, rfl⟩
    rw [hE] at HW h0 ⊢
    clear hE h hl
    go_enter Try.func10, Try.ntmps10
    go_wp2_with fail
    refine HW.out.mono ?_
    rintro e w1 ⟨rfl, hb⟩
    have HB := Lib.hid hb
    clear hb
    go_wp2_with fail
    go_ret2
    exact ⟨rfl, HB.out⟩
end Go.Proofs.Ytkcnhdponcbjaaa
