/-
  code's Table.Read.
-/
import Derived.Test.YtbgechfmbogbpaaCodI
import Derived.Test.YtbgechfmbogbpaaBitC
import Derived.Test.YtbgechfmbogbpaaBits
namespace Go.Proofs.Ytbgechfmbogbpaa
open Go.RowKit Cod Bt

theorem low_c' (g : Nat) (s : ByteArray) (a : Nat) (ord n V E : Int) (A : Nat) (O : Int) (w : World) (h : Rd 70 w g s a ord) (h1 : a ≤ 8 * s.size) (hs : s.size ≤ 1000000000000000000)
    (hV : rdV s.data.toList (8 * s.size) a ord n 1 = V) (hE : rdE (8 * s.size) a ord n 1 = E) (hA : rdAt (8 * s.size) a ord n 1 = A) (hO : rdOrd (8 * s.size) a ord n 1 = O) :
    Calls Try.prog 43 #[.pointer (some ⟨g, 0, none⟩), .int .i64 n] w fun e w' => e = .returned (.tuple #[.int .i64 V, .int .i64 E]) ∧ Now 70 w g s A O w' := by
  subst hV hE hA hO
  exact low_any g s a ord n w h h1 hs
theorem rd_one {l : List UInt8} {tot a : Nat} {o : Int} (ho : o = 0 ∨ o = 1) :
    (tot ≤ a → rdV l tot a o 1 1 = 0 ∧ rdE tot a o 1 1 = 4 ∧ rdAt tot a o 1 1 = a ∧ rdOrd tot a o 1 1 = o) ∧
    (a < tot → rdV l tot a o 1 1 = (bitN 1 l a : Int) ∧ rdE tot a o 1 1 = 0 ∧ rdAt tot a o 1 1 = a + 1 ∧ rdOrd tot a o 1 1 = 1) := by
  have hb : bad o 1 1 = false := by rcases ho with rfl | rfl <;> rfl
  refine ⟨fun h => ?_, fun h => ?_⟩
  · have e : rdE tot a o 1 1 = 4 := by unfold rdE; rw [hb, if_neg (by decide), if_pos (by omega)]
    unfold rdV rdAt rdOrd
    rw [e]
    exact ⟨rfl, rfl, rfl, rfl⟩
  · have e : rdE tot a o 1 1 = 0 := by unfold rdE; rw [hb, if_neg (by decide), if_neg (by omega)]
    unfold rdV rdAt rdOrd
    rw [e]
    refine ⟨?_, rfl, rfl, rfl⟩
    rw [if_pos rfl]
    unfold valO
    rw [if_neg (by decide)]
    simp [valL]
theorem word_or (w b : Nat) (hw : w < 1000000) (hb : b < 2) : bits .or .i64 (wrap64 ((w : Int) * 2)) (b : Int) = ((2 * w + b : Nat) : Int) := by
  have e : wrap64 ((w : Int) * 2) = ((2 * w : Nat) : Int) := by rw [w64 _ (by omega)]; push_cast; omega
  rw [e, i64_or_nat _ _ (by omega) (by omega)]
  have : 2 * w ||| b = 2 * w + b := by
    have := Nat.shiftLeft_add_eq_or_of_lt (show b < 2 ^ 1 by omega) w
    rw [Nat.shiftLeft_eq, Nat.pow_one, Nat.mul_comm] at this
    exact this.symm
  rw [this]

/-- A reader that stands at a place, in either way that a table leaves it. -/
def NowAny (w : World) (g : Nat) (s : ByteArray) (A : Nat) (w' : World) : Prop := ∃ o' : Int, (o' = 0 ∨ o' = 1) ∧ Now 70 w g s A o' w'

set_option maxRecDepth 100000 in
set_option maxHeartbeats 4000000 in
theorem read_any (D b g : Nat) (L : List Int) (s : ByteArray) (a : Nat) (ord : Int) (w : World) (ht : TblAt D w b L) (hrd : Rd 70 w g s a ord) (ho : ord = 0 ∨ ord = 1) (ha : a ≤ 8 * s.size) (hs : s.size ≤ 1000000000000) (hD : D ≤ g) (hc : chkE L = 0) :
    Calls Try.prog 21 #[.pointer (some ⟨b, 0, none⟩), .pointer (some ⟨g, 0, none⟩)] w fun e w' =>
      e = .returned (.tuple #[.int .i64 (rdS L s.data.toList (8 * s.size) a (longK L 16) 0).1, .int .i64 (rdS L s.data.toList (8 * s.size) a (longK L 16) 0).2.1]) ∧
      NowAny w g s (rdS L s.data.toList (8 * s.size) a (longK L 16) 0).2.2 w' := by
  obtain ⟨hl, hr, _⟩ := chk_ok hc
  obtain ⟨A2, c2, Rc, Rs, k1, hbD, k2, k3, k4, k5, k6⟩ := ht.out
  have hgw : g < w.heap.size := Blk.lt hrd
  have HTK := Lib.hid (fun (W : World) (hb : Below D w W) => k1.below hb hbD)
  have HSK := Lib.hid (fun (W : World) (hb : Below D w W) => (Blk.below k5 hb k6 : IRow W Rs (signsL L)))
  have HSL := Lib.hid (show (signsL L).length = totK L 16 from signsK_len L L.length)
  obtain ⟨z, hz⟩ : ∃ z, rdS L s.data.toList (8 * s.size) a (longK L 16) 0 = z := ⟨_, rfl⟩
  have HZ := Lib.hid hz
  rw [hz]
  obtain ⟨m, hm⟩ : ∃ m, longK L 16 = m := ⟨_, rfl⟩
  have HM := Lib.hid hm
  have hm15 : m ≤ 15 := by rw [← hm]; exact longK_lt L
  have HF := Lib.hid (fun n => fst1_le L (by omega) n)
  have HT := Lib.hid (fun n => tl_le L n)
  have HTK2 := Lib.hid (fun n => totK_le L (by omega) n)
  have HB0 := Lib.hid (show Below D w w from Below.refl _ _)
  have HN0 := Lib.hid (show Now 70 w g s a ord w from ⟨World.grownBy.refl _ _, hrd⟩)
  have HDW := Lib.hid (show D ≤ w.heap.size by omega)
  have HL := Lib.hid hl
  have q1 := k1.cell 19
  simp only [tb, List.getElem?_toArray, List.getElem?_cons_zero, List.getElem?_cons_succ] at q1
  rw [hm] at q1
  clear k1 k2 k3 k5 ht hrd hz hc hr hl hm
  go_enter Try.func21, Try.ntmps21
  go_wp2_with fail
  go_loopw [6, 7, 8, 23] (fun wv fv sv iv wr => ∃ k : Nat, ∃ o : Int, k ≤ m ∧ (o = 0 ∨ o = 1) ∧ wv = .int .i64 (wd s.data.toList a k : Int) ∧ fv = .int .i64 (fst1 L (k + 1) : Int) ∧ sv = .int .i64 (totK L (k + 1) : Int) ∧ iv = .int .i64 (k : Int) ∧
    Hid (Below D w wr ∧ D ≤ wr.heap.size) ∧ Hid (Now 70 w g s (a + k) o wr) ∧ Hid (rdS L s.data.toList (8 * s.size) a (m - k) k = z ∧ fst1 L (k + 1) ≤ 2 * wd s.data.toList a k ∧ a + k ≤ 8 * s.size)) (fun _ _ _ iv _ => m - (intOf iv).toNat)
  case atStart => exact ⟨0, ord, by omega, ho, rfl, rfl, rfl, rfl, Lib.hid ⟨HB0.out, HDW.out⟩, HN0, Lib.hid ⟨by rw [Nat.sub_zero, ← HM.out]; exact HZ.out, by simp [fst1, wd], ha⟩⟩
  case round =>
    clear HB0 HN0 HZ
    obtain ⟨k, o, hk, ho1, rfl, rfl, rfl, rfl, HB, HN, HI⟩ := hrel
    obtain ⟨hR, hwf, hak⟩ := HI.out
    have hwl := wd_lt s.data.toList a k
    have hp15 : 2 ^ k ≤ 2 ^ 15 := Nat.pow_le_pow_right (by decide) (by omega)
    by_cases hlt : k < m
    · have hik : (k : Int) < (m : Int) := by omega
      have hik0 : (0 : Int) ≤ (k : Int) := by omega
      obtain ⟨j, hj⟩ : ∃ j, m - k = j + 1 := ⟨m - k - 1, by omega⟩
      rw [hj] at hR
      unfold rdS at hR
      by_cases he : 8 * s.size ≤ a + k
      · obtain ⟨e1, e2, e3, e4⟩ := (rd_one (l := s.data.toList) (tot := 8 * s.size) (a := a + k) ho1).1 he
        have HLW := Lib.hid (low_c' g s (a + k) o 1 0 4 (a + k) o wr HN.out.2 hak (by omega) e1 e2 e3 e4)
        rw [if_pos he] at hR
        subst hR
        clear e1 e2 e3 e4 he hj hwf hwl hp15 HI HF HT HTK2 HTK HSK
        go_wp2_with fail
        refine HLW.out.mono ?_
        rintro e w1 ⟨rfl, hn⟩
        have HN1 := Lib.hid (HN.out.trans hn)
        clear hn
        go_wp2_with fail
        go_ret2
        exact ⟨rfl, o, ho1, HN1.out⟩
      · have he2 : a + k < 8 * s.size := by omega
        obtain ⟨e1, e2, e3, e4⟩ := (rd_one (l := s.data.toList) (tot := 8 * s.size) (a := a + k) ho1).2 he2
        have HLW := Lib.hid (low_c' g s (a + k) o 1 _ 0 (a + k + 1) 1 wr HN.out.2 hak (by omega) e1 e2 e3 e4)
        rw [if_neg he] at hR
        have hb2 := bitN_lt 1 s.data.toList (a + k)
        have hwd : wd s.data.toList a (k + 1) = 2 * wd s.data.toList a k + bitN 1 s.data.toList (a + k) := rfl
        have hfs := fst1_step L (k + 1) (by omega)
        have hts := totK_succ L (k + 1)
        have hpos : 2 * wd s.data.toList a k + bitN 1 s.data.toList (a + k) < fst1 L (k + 1) + tl L (k + 1) → totK L (k + 1) + (2 * wd s.data.toList a k + bitN 1 s.data.toList (a + k)) - fst1 L (k + 1) < totK L 16 := fun h => by
          have := totK_mono L (show k + 1 + 1 ≤ 16 by omega)
          omega
        rw [hwd] at hR
        have hor := word_or (wd s.data.toList a k) (bitN 1 s.data.toList (a + k)) (by omega) hb2
        have hf1 := HF.out k
        have hf2 : 2 ^ (k + 1) ≤ 2 ^ 15 := Nat.pow_le_pow_right (by decide) (by omega)
        have ht1 := HT.out (k + 1)
        have hk1 := HTK2.out (k + 1)
        have hLb := HL.out
        have HTC := Lib.hid (fun (W : World) (hb : Below D w W) => ((HTK.out W hb).cell (3 + (k + 1))).trans (tb_tally _ _ _ _ _ (k + 1) (by omega)))
        have HTS := Lib.hid (fun (W : World) (hb : Below D w W) => (HTK.out W hb).cell 2)
        have HWN := Lib.hid hwd
        obtain ⟨x, hx⟩ : ∃ x, wd s.data.toList a k = x := ⟨_, rfl⟩
        obtain ⟨y, hy⟩ : ∃ y, bitN 1 s.data.toList (a + k) = y := ⟨_, rfl⟩
        obtain ⟨f, hf⟩ : ∃ f, fst1 L (k + 1) = f := ⟨_, rfl⟩
        obtain ⟨c, hc⟩ : ∃ c, tl L (k + 1) = c := ⟨_, rfl⟩
        obtain ⟨q, hq⟩ : ∃ q, totK L (k + 1) = q := ⟨_, rfl⟩
        have HTV := Lib.hid (show tv L (k + 1) = (c : Int) by unfold tv; rw [hc])
        rw [hx] at hR hwf hor hwl hpos
        rw [hy] at hR hor hb2 HLW hpos
        rw [hf] at hR hwf hf1 hfs hpos
        rw [hc] at hR ht1 hfs hts hpos
        rw [hq] at hR hk1 hts hpos
        rw [hx, hf, hq]
        have HOR := Lib.hid hor
        clear hor
        have hxb : (x : Int) < 32768 := by omega
        have hvb : ((2 * x + y : Nat) : Int) < 65536 := by omega
        have hv0 : (0 : Int) ≤ ((2 * x + y : Nat) : Int) := by omega
        have hfb : (f : Int) ≤ 32768000000 := by
          have h3 : 2 ^ (k + 1) * 1000000 ≤ 2 ^ 15 * 1000000 := Nat.mul_le_mul_right _ hf2
          omega
        have hcb : (c : Int) ≤ 288 := by omega
        have hqb : (q : Int) ≤ 16000000 := by omega
        have HBn := Lib.hid (show ∀ w1, Now 70 wr g s (a + k + 1) 1 w1 → Below D w w1 ∧ D ≤ w1.heap.size from fun w1 h => ⟨HB.out.1.grown h.1 HB.out.2 (fun k hk => by injection hk with hk; omega), by have := h.1.size; have := HB.out.2; omega⟩)
        by_cases hcm : 2 * x + y < f + c
        · rw [if_pos hcm] at hR
          have hcm' : ((2 * x + y : Nat) : Int) - (f : Int) < (c : Int) := by omega
          have hp := hpos hcm
          have hps : q + (2 * x + y) - f < (signsL L).length := by rw [HSL.out]; exact hp
          obtain ⟨p, hpp⟩ : ∃ p, q + (2 * x + y) - f = p := ⟨_, rfl⟩
          have hpi : (q : Int) + ((2 * x + y : Nat) : Int) - (f : Int) = (p : Int) := by omega
          rw [hpp] at hps hp hR
          have HPI := Lib.hid hpi
          have HSC := Lib.hid (fun (W : World) (hb : Below D w W) => IRow.cell (HSK.out W hb) p hps)
          have hsz : (p : Int) < (totK L 16 : Int) := by omega
          have hp0 : (0 : Int) ≤ (p : Int) := by omega
          rw [show (signsL L).getD p 0 = (signsL L)[p] from gd _ hps] at hR
          obtain ⟨sg, hsg⟩ : ∃ sg, (signsL L)[p] = sg := ⟨_, rfl⟩
          rw [hsg] at hR HSC
          obtain ⟨zz, hzz⟩ : ∃ zz, totK L 16 = zz := ⟨_, rfl⟩
          rw [hzz] at hsz HTS
          subst hR
          obtain ⟨v, hv⟩ : ∃ v : Nat, 2 * x + y = v := ⟨_, rfl⟩
          have hor := HOR.out
          rw [hv] at hor hcm' hpi hvb hv0
          have HV := Lib.hid hor
          clear hor
          obtain ⟨d, hd⟩ : ∃ d : Int, (v : Int) - (f : Int) = d := ⟨_, rfl⟩
          obtain ⟨r, hr⟩ : ∃ r : Int, (q : Int) + (v : Int) = r := ⟨_, rfl⟩
          have HD := Lib.hid (show wrap64 ((v : Int) - (f : Int)) = d by rw [w64 _ (by omega)]; exact hd)
          have HQ1 := Lib.hid (show wrap64 ((q : Int) + (v : Int)) = r by rw [w64 _ (by omega)]; exact hr)
          have HQ2 := Lib.hid (show wrap64 (r - (f : Int)) = (p : Int) by rw [w64 _ (by omega)]; omega)
          rw [hd] at hcm'
          clear hd hr hpi hvb hv0
          clear hxb hb2
          clear hx hy hf hc hq hcm hp hps hpp hwd e1 e2 e3 e4 he hj hwf hwl hp15 HI HF HT HTK2 HTK HSK hpos hf1 hf2 hfs hts hsg hzz hk1 ht1 HPI HSL HOR
          go_wp2_with fail
          refine HLW.out.mono ?_
          rintro e w1 ⟨rfl, hn⟩
          have HN1 := Lib.hid (HN.out.trans hn)
          have HB1 := Lib.hid (HBn.out w1 hn)
          have c1 := HTC.out w1 HB1.out.1
          rw [HTV.out] at c1
          have c2' := HTS.out w1 HB1.out.1
          simp only [tb, List.getElem?_toArray, List.getElem?_cons_zero, List.getElem?_cons_succ] at c2'
          have c3 := HSC.out w1 HB1.out.1
          clear hn HTC HTS HSC HBn
          go_wp2_with (first | rw [HV.out] | rw [HD.out] | rw [HQ1.out] | rw [HQ2.out])
          go_ret2
          exact ⟨rfl, 1, Or.inr rfl, HN1.out⟩
        · rw [if_neg hcm] at hR
          have hcm' : ¬ ((2 * x + y : Nat) : Int) - (f : Int) < (c : Int) := by omega
          have hS1 : (fst1 L (k + 1 + 1) : Int) = ((f : Int) + (c : Int)) * 2 := by rw [hfs]; push_cast; omega
          have hS2 : (totK L (k + 1 + 1) : Int) = (q : Int) + (c : Int) := by rw [hts]; push_cast; rfl
          have HS1 := Lib.hid hS1
          have HS2 := Lib.hid hS2
          have HNI := Lib.hid (show rdS L s.data.toList (8 * s.size) a (m - (k + 1)) (k + 1) = z ∧ fst1 L (k + 1 + 1) ≤ 2 * wd s.data.toList a (k + 1) ∧ a + (k + 1) ≤ 8 * s.size from ⟨by rw [show m - (k + 1) = j by omega]; exact hR, by rw [HWN.out, hfs, hx, hy]; omega, by omega⟩)
          have HWX := Lib.hid (show wd s.data.toList a (k + 1) = 2 * x + y by rw [HWN.out, hx, hy])
          obtain ⟨v, hv⟩ : ∃ v : Nat, 2 * x + y = v := ⟨_, rfl⟩
          have hor := HOR.out
          rw [hv] at hor hcm' HWX hvb hv0
          have HV := Lib.hid hor
          clear hor
          obtain ⟨d, hd⟩ : ∃ d : Int, (v : Int) - (f : Int) = d := ⟨_, rfl⟩
          have HD := Lib.hid (show wrap64 ((v : Int) - (f : Int)) = d by rw [w64 _ (by omega)]; exact hd)
          rw [hd] at hcm'
          clear hd hvb hv0
          clear hxb hb2
          clear hx hy hf hc hq hcm hv hwd e1 e2 e3 e4 he hj hwf hwl hp15 HI HF HT HTK2 HTK HSK hpos hf1 hf2 hfs hts hk1 ht1 HSL hR hS1 hS2 HOR HWN HTS
          go_wp2_with fail
          refine HLW.out.mono ?_
          rintro e w1 ⟨rfl, hn⟩
          have HN1 := Lib.hid (HN.out.trans hn)
          have HB1 := Lib.hid (HBn.out w1 hn)
          have c1 := HTC.out w1 HB1.out.1
          rw [HTV.out] at c1
          clear hn HTC HBn
          go_wp2_with (first | rw [HV.out] | rw [HD.out])
          go_roundw
          case rel => exact ⟨k + 1, 1, by omega, Or.inr rfl, by rw [HWX.out], by rw [HS1.out], by rw [HS2.out], by go_num, HB1, HN1, HNI⟩
          case measure => simp [intOf]; omega
    · obtain rfl : k = m := by omega
      rw [Nat.sub_self] at hR
      unfold rdS at hR
      subst hR
      clear hwf hwl hp15 HI HF HT HTK2 HTK HSK
      go_wp2_with fail
      go_ret2
      exact ⟨rfl, o, ho1, HN.out⟩
end Go.Proofs.Ytbgechfmbogbpaa
