/-
  ascii's decoder by its state: take, visible, hexDigit; and unhex.
-/
import Derived.Test.YthioafndepkhoaaAscC
namespace Go.Proofs.Ythioafndepkhoaa
open Go.RowKit Oct Asc

theorem news_blk {w : World} {k : Nat} {cs : Array Value} {t : TypeId} {x : List UInt8} (h : Blk w k t cs) (hx : cs.toList = cellsOf x) :
    ∀ W : World, (∀ j, j < w.heap.size → W.heap[j]? = w.heap[j]?) → ∀ (j : Nat) u, (cellsOf x)[j]? = some u → W.cell? ((⟨k, 0, none⟩ : Addr).add j) = some u := by
  intro W hW j u hu
  rw [← hx] at hu
  exact World.news_of_block ((hW k h.lt).trans h) j u hu
theorem len_size {R : ByteArray} {l : List UInt8} (h : R.data.toList = l) : R.size = l.length := by rw [← h]; simp

/-- What a call that reads leaves: the row as it was. -/
def Read1 (B : Nat) (w : World) (g : Nat) (r : Option Nat) (rest o : List UInt8) (m : Nat) (w' : World) : Prop := Dec B w' g r rest o m ∧ Two w w' g r
theorem drop_len (l : List UInt8) {c : UInt8} {t : List UInt8} (h : l.dropWhile whiteS = c :: t) : t.length < l.length := by
  have := (List.dropWhile_suffix (l := l) whiteS).length_le
  rw [h] at this
  simp only [List.length_cons] at this
  omega
theorem vis_ok (B g : Nat) (r : Option Nat) (rest o : List UInt8) (m : Nat) (w : World) (c : UInt8) (t : List UInt8) (hd : rest.dropWhile whiteS = c :: t) (h : Dec B w g r rest o m) :
    Calls Try.prog 35 #[.pointer (some ⟨g, 0, none⟩)] w fun e w' => e = .returned (.int .u8 (c.toNat : Int)) ∧ Read1 B w g r t o m w' := by
  obtain ⟨R, v, rfl, h2, h3, h4, h5, h6, h7⟩ := h
  refine (visible_ok g R c t v m w h2 hd h3).mono ?_
  rintro e w' ⟨he, ⟨R', hR', hX⟩, hg⟩
  have hl := drop_len _ hd
  have e1 := len_size hR'
  have e2 : R.data.toList.length = R.size := by simp
  exact ⟨he, Dec.grown h4 h5 h6 h7 hg hR' (by omega) hX, two_of_grown hg⟩
theorem vis_no (B g : Nat) (r : Option Nat) (rest o : List UInt8) (m : Nat) (w : World) (hd : rest.dropWhile whiteS = []) (h : Dec B w g r rest o m) :
    Calls Try.prog 35 #[.pointer (some ⟨g, 0, none⟩)] w fun e w' => e = gUp 4 ∧ Two w w' g r := by
  obtain ⟨R, v, rfl, h2, h3, h4, h5, h6, h7⟩ := h
  refine (visible_no g R v m w h2 hd h3).mono ?_
  rintro e w' ⟨he, ⟨R', hX⟩, hg⟩
  exact ⟨he, two_of_grown hg⟩
/-- How a decoder ends whose answer is R: with its bytes in the row, or giving up. -/
def DecEnd (B : Nat) (w : World) (g : Nat) (r : Option Nat) (m : Nat) (R : Int × List UInt8) (e : Ending) (w' : World) : Prop :=
  (R.1 = 0 ∧ e = .returned (.tuple #[]) ∧ ∃ rest, Put B w g r rest R.2 m w') ∨ (R.1 ≠ 0 ∧ e = gUp R.1 ∧ Two w w' g r)
theorem hexD_drop (m : Nat) (o : List UInt8) (h : Option UInt8) : ∀ l : List UInt8, hexD m o h l = hexD m o h (l.dropWhile whiteS)
  | [] => rfl
  | c :: t => by
    rw [List.dropWhile_cons]
    by_cases hw : whiteS c = true
    · rw [if_pos hw, hexD_white _ hw, hexD_drop m o h t]
    · rw [if_neg hw]
theorem drop_white {l : List UInt8} {c : UInt8} {t : List UInt8} (h : l.dropWhile whiteS = c :: t) : whiteS c = false := by
  have := List.head?_dropWhile_not (p := whiteS) l
  rw [h] at this
  simpa using this
def restL (w : World) (g : Nat) : Nat := restAt w g
theorem dec_rest {B : Nat} {w : World} {g : Nat} {r : Option Nat} {rest o : List UInt8} {m : Nat} (h : Dec B w g r rest o m) : restAt w g = rest.length := by
  obtain ⟨R, v, rfl, h2, h3, _⟩ := h
  rw [restAt_of h3]
  simp
theorem pair_val (a b : UInt8) (h1 : 0 ≤ digitS a) (h2 : 0 ≤ digitS b) : (((pairByte a b).toNat : Nat) : Int) = 16 * digitS a + digitS b := pairByte_int a b h1 h2

theorem asc_ne {c : UInt8} {k : Nat} (h : c ≠ UInt8.ofNat k) (hk : k < 256 := by decide) : ((c.toNat : Int) == (k : Int)) = false := by
  refine beq_eq_false_iff_ne.2 fun e => h ?_
  have e2 : c.toNat = k := by omega
  rw [← e2]
  simp
theorem read_put {B : Nat} {w w' : World} {g : Nat} {r : Option Nat} {rest o : List UInt8} {m : Nat} (h : Read1 B w g r rest o m w') : Put B w g r rest o m w' := ⟨r, .inl rfl, h.1, h.2⟩
theorem end_ok {B : Nat} {w wr w1 : World} {g : Nat} {r r1 : Option Nat} {rest o : List UInt8} {m : Nat} {F : Int × List UInt8} (hr : r1 = r ∨ ∃ k, r1 = some k ∧ w.heap.size ≤ k) (hT : Two w wr g r) (h : Put B wr g r1 rest o m w1) (hF : F = (0, o)) : DecEnd B w g r m F (.returned (.tuple #[])) w1 := by
  subst hF
  exact .inl ⟨rfl, rfl, rest, Put.then hr hT h⟩
theorem end_no {B : Nat} {w wr w1 : World} {g : Nat} {r r1 : Option Nat} {m : Nat} {x : Int} {F : Int × List UInt8} (hr : r1 = r ∨ ∃ k, r1 = some k ∧ w.heap.size ≤ k) (hT : Two w wr g r) (h : Two wr w1 g r1) (hF : F = (x, [])) (hx : x ≠ 0) : DecEnd B w g r m F (gUp x) w1 := by
  subst hF
  exact .inr ⟨hx, rfl, hT.trans h hr⟩
theorem put_one_no {B g : Nat} {r : Option Nat} {rest o : List UInt8} {m : Nat} {b : Int} {w : World} (hm : m ≤ 1048576) (hol : o.length ≤ m) (h : Dec B w g r rest o m) (hn : m ≤ o.length) :
    Calls Try.prog 37 #[.pointer (some ⟨g, 0, none⟩), .slice (some ⟨w.heap.size, 0, none⟩) 1 1] (w.alloc (.cells #[.int .u8 b] 5)) fun e w' => e = gUp 5 ∧ Two w w' g r := by
  refine (put_no B g r rest o m _ 1 1 _ hm hol (h.alloc _) (by omega)).mono ?_
  rintro e w' ⟨rfl, q, rfl⟩
  exact ⟨rfl, ((Two.refl w g r).alloc _).drewN q⟩
theorem put_one_ok {B g : Nat} {r : Option Nat} {rest o : List UInt8} {m : Nat} {y : UInt8} {b : Int} {w : World} (hB : B ≤ w.heap.size) (hm : m ≤ 1048576) (h : Dec B w g r rest o m) (hb : (y.toNat : Int) = b) (hn : ¬ m ≤ o.length) :
    Calls Try.prog 37 #[.pointer (some ⟨g, 0, none⟩), .slice (some ⟨w.heap.size, 0, none⟩) 1 1] (w.alloc (.cells #[.int .u8 b] 5)) fun e w' => e = .returned (.tuple #[]) ∧ Put B w g r rest (o ++ [y]) m w' := by
  refine (put_ok B g r rest o [y] m ⟨w.heap.size, 0, none⟩ 1 1 _ (by simp; omega) hm (by omega) (h.alloc _) rfl (by decide) ?_).mono ?_
  · exact news_blk (Blk.new w _ _) (by subst hb; rfl)
  · rintro e w' ⟨rfl, hp⟩
    exact ⟨rfl, Put.then (.inl rfl) ((Two.refl w g r).alloc _) hp⟩
/-- The loop of unhex, so far. -/
def HexTo (B : Nat) (w : World) (g : Nat) (r : Option Nat) (m : Nat) (F : Int × List UInt8) (wr : World) : Prop :=
  ∃ (r' : Option Nat) (rest o : List UInt8), (r' = r ∨ ∃ k, r' = some k ∧ w.heap.size ≤ k) ∧ Dec B wr g r' rest o m ∧ Two w wr g r ∧ o.length ≤ m ∧ F = hexD m o none rest

set_option maxRecDepth 100000 in
set_option maxHeartbeats 4000000 in
theorem unhex_in (B g : Nat) (r : Option Nat) (rest : List UInt8) (m : Nat) (w : World) (hB : B ≤ w.heap.size) (hm : m ≤ 1048576) (F : Int × List UInt8) (hF : F = hexD m [] none rest) (h : Dec B w g r rest [] m) :
    Calls Try.prog 18 #[.pointer (some ⟨g, 0, none⟩)] w (DecEnd B w g r m F) := by
  have HF := Lib.hid hF
  have H := Lib.hid h
  clear hF h
  go_enter Try.func18, Try.ntmps18
  go_wp2_with fail
  go_loopw [] (fun wr => HexTo B w g r m F wr) (fun wr => restAt wr g)
  case atStart => exact ⟨r, rest, [], .inl rfl, H.out, Two.refl _ _ _, by simp, HF.out⟩
  case round =>
    clear H HF
    obtain ⟨r1, rest1, o, hr, hD, hT, ho, hF⟩ := hrel
    have hms := dec_rest hD
    have HM := Lib.hid hms
    have HR := Lib.hid hr
    have HT := Lib.hid hT
    have HD := Lib.hid hD
    have HO := Lib.hid ho
    rw [hexD_drop] at hF
    clear hr hT hD hms ho
    rcases hd : rest1.dropWhile whiteS with _ | ⟨c, t⟩
    · rw [hd, hexD_nil] at hF
      have HDr := Lib.hid hd
      have HF := Lib.hid hF
      clear hd hF
      go_wp2_with fail
      refine (vis_no B g r1 rest1 o m _ HDr.out HD.out).mono ?_
      rintro e w1 ⟨rfl, ht⟩
      refine ⟨rfl, ?_⟩
      rw [HF.out]
      exact .inr ⟨by decide, rfl, HT.out.trans ht HR.out⟩
    · rw [hd] at hF
      have hw := drop_white hd
      have HDr := Lib.hid hd
      have hlen := drop_len _ hd
      have HLn := Lib.hid hlen
      by_cases h62 : c = 62
      · subst h62
        rw [hexD_end] at hF
        have HF := Lib.hid hF
        clear hd hF hw hlen
        go_wp2_with fail
        refine (vis_ok B g r1 rest1 o m _ 62 t HDr.out HD.out).mono ?_
        rintro e w1 ⟨rfl, hd1, ht⟩
        have HD1 := Lib.hid hd1
        have HT1 := Lib.hid ht
        clear hd1 ht
        go_wp2_with fail
        go_end0
        exact end_ok HR.out HT.out (read_put ⟨HD1.out, HT1.out⟩) HF.out
      · have h62' : ((c.toNat : Int) == 62) = false := asc_ne h62
        by_cases hdg : digitS c < 0
        · rw [hexD_bad _ hw h62 hdg] at hF
          have HF := Lib.hid hF
          have HG := Lib.hid hdg
          clear hd hF hw hlen hdg h62
          go_wp2_with fail
          refine (vis_ok B g r1 rest1 o m _ c t HDr.out HD.out).mono ?_
          rintro e w1 ⟨rfl, hd1, ht⟩
          have HT1 := Lib.hid ht
          clear hd1 ht
          go_wp2_with fail
          refine (hexDigit_no c _ HG.out).mono ?_
          rintro e w2 ⟨rfl, rfl⟩
          refine ⟨rfl, ?_⟩
          exact end_no HR.out HT.out HT1.out HF.out (by decide)
        · have hdg : 0 ≤ digitS c := by omega
          have hdl := digit_le c
          have HG := Lib.hid hdg
          have HG2 := Lib.hid hdl
          rw [hexD_one _ hw h62 hdg, hexD_drop] at hF
          obtain ⟨D, hD⟩ : ∃ D, digitS c = D := ⟨_, rfl⟩
          rcases hd2 : t.dropWhile whiteS with _ | ⟨d, u⟩
          · rw [hd2, hexD_nil] at hF
            have HF := Lib.hid hF
            have HDr2 := Lib.hid hd2
            clear hd hF hw hlen hdg h62 hd2 hdl hD
            go_wp2_with fail
            refine (vis_ok B g r1 rest1 o m _ c t HDr.out HD.out).mono ?_
            rintro e w1 ⟨rfl, hd1, ht⟩
            have HD1 := Lib.hid hd1
            have HT1 := Lib.hid ht
            clear hd1 ht
            go_wp2_with fail
            refine (hexDigit_ok c _ HG.out).mono ?_
            rintro e w2 ⟨rfl, rfl⟩
            go_wp2_with fail
            refine (vis_no B g r1 t o m _ HDr2.out HD1.out).mono ?_
            rintro e w3 ⟨rfl, ht⟩
            refine ⟨rfl, ?_⟩
            exact end_no HR.out HT.out (HT1.out.trans ht (.inl rfl)) HF.out (by decide)
          · rw [hd2] at hF
            have hw2 := drop_white hd2
            have HDr2 := Lib.hid hd2
            have hlen2 := drop_len _ hd2
            have HLn2 := Lib.hid hlen2
            by_cases hd62 : d = 62
            · subst hd62
              rw [hexD_half] at hF
              have hv : (((pairByte c 48).toNat : Nat) : Int) = 16 * D := by rw [pair_val c 48 hdg (by decide), hD, show digitS 48 = 0 from rfl]; omega
              have hb : 16 * D ≤ 255 := by have := (pairByte c 48).toNat_lt; omega
              have hb0 : 0 ≤ D := by omega
              have HV := Lib.hid hv
              have HF := Lib.hid hF
              clear hd hF hw hlen hdg h62 hd2 hdl hw2 hlen2 hv
              rw [hD] at HG2
              go_wp2_with fail
              refine (vis_ok B g r1 rest1 o m _ c t HDr.out HD.out).mono ?_
              rintro e w1 ⟨rfl, hd1, ht⟩
              have HD1 := Lib.hid hd1
              have HT1 := Lib.hid ht
              clear hd1 ht
              go_wp2_with fail
              refine (hexDigit_ok c _ HG.out).mono ?_
              rintro e w2 ⟨rfl, rfl⟩
              rw [hD]
              go_wp2_with fail
              refine (vis_ok B g r1 t o m _ 62 u HDr2.out HD1.out).mono ?_
              rintro e w3 ⟨rfl, hd1, ht⟩
              have HD2 := Lib.hid hd1
              have HT2 := Lib.hid (HT1.out.trans ht (.inl rfl))
              clear hd1 ht
              by_cases hfull : m ≤ o.length
              · rw [if_pos hfull] at HF
                go_wp2_with fail
                refine (put_one_no hm HO.out HD2.out hfull).mono ?_
                rintro e w4 ⟨rfl, ht⟩
                refine ⟨rfl, ?_⟩
                exact end_no HR.out HT.out (HT2.out.trans ht (.inl rfl)) HF.out (by decide)
              · rw [if_neg hfull] at HF
                go_wp2_with fail
                refine (put_one_ok (Nat.le_trans hB (Nat.le_trans HT.out.size HT2.out.size)) hm HD2.out HV.out hfull).mono ?_
                rintro e w4 ⟨rfl, hp⟩
                have HP := Lib.hid (Put.then (.inl rfl) HT2.out hp)
                clear hp
                go_wp2_with fail
                go_end0
                exact end_ok HR.out HT.out HP.out HF.out
            · have hd62' : ((d.toNat : Int) == 62) = false := asc_ne hd62
              by_cases hdg2 : digitS d < 0
              · rw [hexD_bad _ hw2 hd62 hdg2] at hF
                have HF := Lib.hid hF
                have HG3 := Lib.hid hdg2
                clear hd hF hw hlen hdg h62 hd2 hdl hD hw2 hlen2 hdg2 hd62
                go_wp2_with fail
                refine (vis_ok B g r1 rest1 o m _ c t HDr.out HD.out).mono ?_
                rintro e w1 ⟨rfl, hd1, ht⟩
                have HD1 := Lib.hid hd1
                have HT1 := Lib.hid ht
                clear hd1 ht
                go_wp2_with fail
                refine (hexDigit_ok c _ HG.out).mono ?_
                rintro e w2 ⟨rfl, rfl⟩
                go_wp2_with fail
                refine (vis_ok B g r1 t o m _ d u HDr2.out HD1.out).mono ?_
                rintro e w3 ⟨rfl, hd1, ht⟩
                have HT2 := Lib.hid (HT1.out.trans ht (.inl rfl))
                clear hd1 ht
                go_wp2_with fail
                refine (hexDigit_no d _ HG3.out).mono ?_
                rintro e w4 ⟨rfl, rfl⟩
                refine ⟨rfl, ?_⟩
                exact end_no HR.out HT.out HT2.out HF.out (by decide)
              · have hdg2 : 0 ≤ digitS d := by omega
                have hdl2 := digit_le d
                have HG3 := Lib.hid hdg2
                rw [hexD_two _ hw2 hd62 hdg2] at hF
                obtain ⟨E, hE⟩ : ∃ E, digitS d = E := ⟨_, rfl⟩
                have hv : (((pairByte c d).toNat : Nat) : Int) = 16 * D + E := by rw [pair_val c d hdg hdg2, hD, hE]
                have hb : 16 * D + E ≤ 255 := by have := (pairByte c d).toNat_lt; omega
                have hb0 : 0 ≤ D := by omega
                have hb1 : 0 ≤ E := by omega
                have HV := Lib.hid hv
                have HF := Lib.hid hF
                clear hd hF hw hlen hdg h62 hd2 hdl hw2 hlen2 hv hdg2 hd62 hdl2
                rw [hD] at HG2
                go_wp2_with fail
                refine (vis_ok B g r1 rest1 o m _ c t HDr.out HD.out).mono ?_
                rintro e w1 ⟨rfl, hd1, ht⟩
                have HD1 := Lib.hid hd1
                have HT1 := Lib.hid ht
                clear hd1 ht
                go_wp2_with fail
                refine (hexDigit_ok c _ HG.out).mono ?_
                rintro e w2 ⟨rfl, rfl⟩
                rw [hD]
                go_wp2_with fail
                refine (vis_ok B g r1 t o m _ d u HDr2.out HD1.out).mono ?_
                rintro e w3 ⟨rfl, hd1, ht⟩
                have HD2 := Lib.hid hd1
                have HT2 := Lib.hid (HT1.out.trans ht (.inl rfl))
                clear hd1 ht
                go_wp2_with fail
                refine (hexDigit_ok d _ HG3.out).mono ?_
                rintro e w4 ⟨rfl, rfl⟩
                rw [hE]
                by_cases hfull : m ≤ o.length
                · rw [if_pos hfull] at HF
                  go_wp2_with fail
                  refine (put_one_no hm HO.out HD2.out hfull).mono ?_
                  rintro e w5 ⟨rfl, ht⟩
                  refine ⟨rfl, ?_⟩
                  exact end_no HR.out HT.out (HT2.out.trans ht (.inl rfl)) HF.out (by decide)
                · rw [if_neg hfull] at HF
                  go_wp2_with fail
                  refine (put_one_ok (Nat.le_trans hB (Nat.le_trans HT.out.size HT2.out.size)) hm HD2.out HV.out hfull).mono ?_
                  rintro e w5 ⟨rfl, hp⟩
                  obtain ⟨r2, hr2, hd2, ht2⟩ := Put.then HR.out HT.out (Put.then (.inl rfl) HT2.out hp)
                  have HD3 := Lib.hid hd2
                  have HT3 := Lib.hid ht2
                  have HR3 := Lib.hid hr2
                  clear hp hd2 ht2 hr2
                  go_wp2_with fail
                  go_roundw
                  case rel => exact ⟨r2, u, _, HR3.out, HD3.out, HT3.out, by rw [List.length_append]; simp; omega, HF.out⟩
                  case measure => rw [HM.out, dec_rest HD3.out]; have h1 := HLn.out; have h2 := HLn2.out; omega
end Go.Proofs.Ythioafndepkhoaa
