/-
  CodeBack's walk: symbols that are written are read back.
-/
import Derived.Test.YtbgechfmbogbpaaCodBm
import Derived.Test.YtbgechfmbogbpaaCodJ
import Derived.Test.YtbgechfmbogbpaaCodH
import Derived.Test.YtbgechfmbogbpaaCodLn
import Derived.Test.YtbgechfmbogbpaaBitD
namespace Go.Proofs.Ytbgechfmbogbpaa
open Go.RowKit Bt Cod

theorem code_lives3 (W : World) : Calls Try.prog 8 #[] W fun e w' => e = .returned (.bool true) ∧ Below W.heap.size W w' := lives_of lengths_example W
theorem IAt.at_ {w : World} {b off : Nat} {l : List Int} (h : IAt w (some ⟨b, off, none⟩) l) (j : Nat) (hj : j < l.length) : w.cell? ⟨b, off + j, none⟩ = some (.int .i64 l[j]) := by
  obtain ⟨b', off', e, _, hc⟩ := h j hj
  injection e with e
  injection e with e1 e2
  subst e1 e2
  exact hc
theorem grown_of_below {W W' : World} (hb : Below W.heap.size W W') : W.grownBy W' none := ⟨hb.os, hb.tape, hb.output, hb.size, fun k hk _ => hb.block k hk⟩
theorem own_two {W W' : World} {D g n : Nat} {r : Option Nat} {pv : Value} {l : List Int} (ht : Two W W' g r) (h : OwnI W D pv n l) (hne : ∀ q, pv.ownBlock = some q → q ≠ g ∧ some q ≠ r) : OwnI W' D pv n l := by
  refine ⟨h.1, ?_⟩
  rcases h.2 with h0 | ⟨q, cap, cur, rfl, h1, h2, h3⟩
  · exact Or.inl h0
  · have hq := hne q rfl
    exact Or.inr ⟨q, cap, cur, rfl, h1, (ht.block q (by
      rcases Nat.lt_or_ge q W.heap.size with h | h
      · exact h
      · rw [Array.getElem?_eq_none h] at h2; cases h2) hq.1 hq.2).trans h2, h3⟩
theorem wrB_grown {D G : Nat} {w w' : World} {r row : Option Nat} {st : St1} (h : WrB D w G r st) (hg : w.grownBy w' row) (h1 : some G ≠ row) (h2 : r = none ∨ r ≠ row) : WrB D w' G r st := by
  obtain ⟨v, k1, k2, k3, k4, k5⟩ := h
  exact ⟨v, k1.grown hg h1, k2.kept hg (by rw [k3]; exact h2), k3, k4, k5⟩
def ints (xs : List Nat) : List Int := xs.map Int.ofNat
theorem ints_len (xs : List Nat) : (ints xs).length = xs.length := by simp [ints]
theorem ints_snoc (xs : List Nat) (x : Nat) : ints (xs ++ [x]) = ints xs ++ [(x : Int)] := by simp [ints]
/-- What the first loop's rounds know: the symbols xs are written. -/
structure BkRel (N D b G : Nat) (L : List Int) (w : World) (xs : List Nat) (pv : Value) (W : World) : Prop where
  below : Below N w W
  tbl : TblAt D W b L
  wr : ∃ r, WrB D W G r (stW L xs) ∧ ∀ q, pv.ownBlock = some q → q ≠ G ∧ some q ≠ r
  own : OwnI W D pv xs.length (ints xs)
  sz : N ≤ D ∧ D ≤ G ∧ G < W.heap.size
theorem BkRel.keep {N D b G : Nat} {L : List Int} {w : World} {xs : List Nat} {pv : Value} {W W' : World} (h : BkRel N D b G L w xs pv W) (hb : Below W.heap.size W W') : BkRel N D b G L w xs pv W' :=
  ⟨h.below.trans (hb.mono (by have := h.sz; omega)), h.tbl.keep (hb.mono (by have := h.sz; omega)), h.wr.imp (fun r k => ⟨wrB_grown k.1 (grown_of_below hb) (by simp) (by cases r <;> simp), k.2⟩), own_below h.own hb, h.sz.1, h.sz.2.1, Nat.lt_of_lt_of_le h.sz.2.2 hb.size⟩
/-- Behind a symbol written. -/
theorem BkRel.wrote {N D b G : Nat} {L : List Int} {w : World} {xs : List Nat} {pv : Value} {W W' : World} {r : Option Nat} {st : St1} (h : BkRel N D b G L w xs pv W) (hr : WrB D W G r (stW L xs)) (hs : ∀ q, pv.ownBlock = some q → q ≠ G ∧ some q ≠ r) (hw : WroteB D W G r st W') :
    Below N w W' ∧ TblAt D W' b L ∧ (∃ r', WrB D W' G r' st ∧ ∀ q, pv.ownBlock = some q → q ≠ G ∧ some q ≠ r') ∧ OwnI W' D pv xs.length (ints xs) ∧ N ≤ D ∧ D ≤ G ∧ G < W'.heap.size := by
  obtain ⟨r', hr', hw', ht⟩ := hw
  have hD : D ≤ W.heap.size := by have := h.sz; omega
  have hb : Below D W W' := ht.below hD h.sz.2.1 (fun k hk => (Wr.row_in hr k hk).1)
  refine ⟨h.below.trans (hb.mono h.sz.1), h.tbl.keep hb, ⟨r', hw', fun q hq => ⟨(hs q hq).1, ?_⟩⟩, own_two ht h.own hs, h.sz.1, h.sz.2.1, Nat.lt_of_lt_of_le h.sz.2.2 ht.size⟩
  rcases hr' with rfl | ⟨k, rfl, hk⟩
  · exact (hs q hq).2
  · have := (World.ownsRow.lt h.own q hq).2
    intro e
    injection e with e
    omega
/-- What the second loop's rounds know: the first j symbols are read. -/
structure RkRel (N D b G H : Nat) (L : List Int) (w : World) (xs : List Nat) (pv : Value) (s : ByteArray) (j : Nat) (W : World) : Prop where
  below : Below N w W
  tbl : TblAt D W b L
  wr : ∃ r, WrB D W G r (stW L xs) ∧ r ≠ some H
  own : OwnI W D pv xs.length (ints xs) ∧ pv.ownBlock ≠ some H
  rd : ∃ o : Int, (o = 0 ∨ o = 1) ∧ Rd 70 W H s (bitsW L (xs.take j)) o
  sz : N ≤ D ∧ D ≤ H ∧ G ≠ H ∧ H < W.heap.size
theorem RkRel.read {N D b G H : Nat} {L : List Int} {w : World} {xs : List Nat} {pv : Value} {s : ByteArray} {j j' : Nat} {W W' : World} {o : Int} (h : RkRel N D b G H L w xs pv s j W) (ho : o = 0 ∨ o = 1) (hn : Now 70 W H s (bitsW L (xs.take j')) o W') : RkRel N D b G H L w xs pv s j' W' := by
  have hb : Below D W W' := ⟨hn.1.os, hn.1.tape, hn.1.output, hn.1.size, fun k hk => hn.1.block k (by have := h.sz; omega) (by have := h.sz; simp; omega)⟩
  refine ⟨h.below.trans (hb.mono h.sz.1), h.tbl.keep hb, h.wr.imp (fun r k => ⟨wrB_grown k.1 hn.1 (by have := h.sz.2.2.1; simpa using this) (Or.inr k.2), k.2⟩), ⟨h.own.1.kept hn.1 (Or.inr h.own.2), h.own.2⟩, ⟨o, ho, hn.2⟩, h.sz.1, h.sz.2.1, h.sz.2.2.1, Nat.lt_of_lt_of_le h.sz.2.2.2 hn.1.size⟩
theorem RkRel.drewN {N D b G H : Nat} {L : List Int} {w : World} {xs : List Nat} {pv : Value} {s : ByteArray} {j : Nat} {W : World} (h : RkRel N D b G H L w xs pv s j W) (q : Nat) : RkRel N D b G H L w xs pv s j (W.drewN q) := by
  obtain ⟨o, ho, hrd⟩ := h.rd
  exact h.read ho (Now.same hrd q)

theorem bk_append {N D b G : Nat} {L : List Int} {w w1 w2 : World} {xs : List Nat} {i m g cap : Nat} {pv : Value} {o : Obj} {st : St1} (hb : Below N w w1) (ht : TblAt D w1 b L) (hw : ∃ r, WrB D w1 G r st ∧ ∀ q, pv.ownBlock = some q → q ≠ G ∧ some q ≠ r)
    (ho : OwnI w1 D pv m (ints xs)) (hz : N ≤ D ∧ D ≤ G ∧ G < w1.heap.size) (hm : xs.length = m)
    (hown1 : w2.ownsRow D 3 1 (.slice (some ⟨g, 0, none⟩) (m + 1) cap) (m + 1) (iC (ints xs) ++ [.int .i64 (i : Int)])) (hgrow : (w1.alloc o).grownBy w2 pv.ownBlock) (hat : pv.ownBlock = some g ∨ g = w1.heap.size + 1) (hst : stW L (xs ++ [i]) = st) :
    BkRel N D b G L w (xs ++ [i]) (.slice (some ⟨g, 0, none⟩) (m + 1) cap) w2 := by
  have hD : D ≤ w1.heap.size := by omega
  have hBD : Below D w1 w2 := ((Below.refl D w1).alloc hD o).grown hgrow (by simp; omega) (fun r hr => (World.ownsRow.lt ho r hr).1)
  obtain ⟨r, hwr, hs⟩ := hw
  have hG : some G ≠ pv.ownBlock := fun e => (hs G e.symm).1 rfl
  have hr : r = none ∨ r ≠ pv.ownBlock := by
    cases r with
    | none => exact Or.inl rfl
    | some k => exact Or.inr (fun e => (hs k e.symm).2 rfl)
  refine ⟨hb.trans (hBD.mono hz.1), ht.keep hBD, ⟨r, ?_, ?_⟩, ?_, hz.1, hz.2.1, Nat.lt_of_lt_of_le hz.2.2 hBD.size⟩
  · rw [hst]
    exact wrB_grown (wrB_grown hwr (World.grownBy_alloc w1 o none) (by simp) (by cases r <;> simp)) hgrow hG hr
  · intro q hq
    injection hq with hq
    have hq' : g = q := hq
    subst hq'
    rcases hat with h | h
    · exact hs _ h
    · refine ⟨by omega, fun e => ?_⟩
      have := (Wr.row_in hwr g e.symm).2
      omega
  · unfold OwnI
    rw [ints_snoc, iC_snoc, List.length_append, hm]
    exact hown1

set_option maxRecDepth 100000 in
set_option maxHeartbeats 16000000 in
theorem back_any (A B : Option Addr) (ca cb : Nat) (l sg : List Int) (w : World) (hA : IAt w A l) (hB : IAt w B sg) (hAn : A = none → l.length = 0 ∧ ca = 0) (_hw : ∀ x, x ∈ sg → -9223372036854775808 ≤ x ∧ x ≤ 9223372036854775807) :
    Calls Try.prog 6 #[.slice A l.length ca, .slice B sg.length cb] w fun e w' => e = .returned (.bool true) ∧ Below w.heap.size w w' := by
  have HLV := Lib.hid code_lives3
  obtain ⟨N, hN⟩ : ∃ N, w.heap.size = N := ⟨_, rfl⟩
  have HB := Lib.hid (hN ▸ Below.refl w.heap.size w : Below N w w)
  have HS := Lib.hid (Nat.le_of_eq hN.symm : N ≤ w.heap.size)
  have HA := Lib.hid (fun W (hb : Below N w W) => IAt.below hA (by rw [hN]; exact hb))
  have HBB := Lib.hid (fun W (hb : Below N w W) => IAt.below hB (by rw [hN]; exact hb))
  have HAN := Lib.hid hAn
  clear hA hB hAn
  rw [hN]
  clear hN
  obtain ⟨n, hn⟩ : ∃ n, l.length = n := ⟨_, rfl⟩
  obtain ⟨q, hq⟩ : ∃ q, sg.length = q := ⟨_, rfl⟩
  have HN := Lib.hid hn
  have HQ := Lib.hid hq
  by_cases h1 : 300 < n
  · have h1I : (300 : Int) < (n : Int) := by omega
    rw [hn, hq]
    clear hn hq h1
    go_enter Try.func6, Try.ntmps6
    go_wp2_with fail
    refine (HLV.out w).mono ?_
    rintro e U1 ⟨rfl, hb⟩
    have HB := Lib.hid (HB.out.trans (hb.mono HS.out))
    clear hb
    go_wp2_with fail
    go_ret
    exact ⟨rfl, HB.out⟩
  · have h1I : (n : Int) ≤ 300 := by omega
    by_cases h2 : 200 < q
    · have h2I : (200 : Int) < (q : Int) := by omega
      rw [hn, hq]
      clear hn hq h1 h2
      go_enter Try.func6, Try.ntmps6
      go_wp2_with fail
      refine (HLV.out w).mono ?_
      rintro e U1 ⟨rfl, hb⟩
      have HB := Lib.hid (HB.out.trans (hb.mono HS.out))
      clear hb
      go_wp2_with fail
      go_ret
      exact ⟨rfl, HB.out⟩
    · have h2I : (q : Int) ≤ 200 := by omega
      have hln : l.length ≤ 1000000 := by omega
      obtain ⟨z, hz⟩ : ∃ z, chkE l = z := ⟨_, rfl⟩
      by_cases h0 : z = 0
      · subst h0
        obtain ⟨hl288, hr, hv⟩ := chk_ok hz
        have HNe : Hid (∀ W, Below N w W → Calls Try.prog 11 #[.slice A n ca] W fun e w' => ∃ b : Nat, e = .returned (.tuple #[.pointer (some ⟨b, 0, none⟩), .int .i64 0]) ∧ W.heap.size ≤ b ∧ TblAt w'.heap.size w' b l ∧ Below W.heap.size W w') := Lib.hid (fun W hb => by have h := new_ok A ca l W (HA.out W hb) HAN.out hz; rw [hn] at h; exact h)
        have HWn := Lib.hid (fun (D : Nat) (W : World) (h : D ≤ W.heap.size) => wnew_any D W h)
        have HWb := Lib.hid (fun (D b G : Nat) (x : Int) (W : World) (ht : TblAt D W b l) (hx : x < 0 ∨ (l.length : Int) ≤ x) => write_bad b l (some ⟨G, 0, none⟩) x W D ht hl288 hx G rfl)
        have HWo := Lib.hid (fun (D b G i : Nat) (W : World) (ht : TblAt D W b l) (hi : i < l.length) (h0 : l[i] = 0) => write_none b l i W D ht hl288 hi h0 G)
        have HWa := Lib.hid (fun (D b G i : Nat) (r : Option Nat) (st : St1) (W : World) (ht : TblAt D W b l) (hi : i < l.length) (h0 : 0 < l[i]) (hw : WrB D W G r st) (hg : good1 st) (hll : st.1.length ≤ 800000) (hD : D ≤ W.heap.size) => write_any b l i W D D G r st ht hz hi h0 hw hg hll (Nat.le_refl _) hD)
        have HRng := Lib.hid (fun i (h : i < l.length) => range_at hr i h)
        have HPH := Lib.hid (fun k (h : k < sg.length) (h1 : okS l sg[k] = true) => pk_hit l sg h h1)
        have HPM := Lib.hid (fun k (h : k < sg.length) (h1 : okS l sg[k] = false) => pk_miss l sg h h1)
        have HPL := Lib.hid (fun k => pk_len l sg k)
        have HLE := Lib.hid (fun xs => bitsW_le l hr xs)
        have HBL := Lib.hid (fun xs => bytes_len l xs)
        have HPO := Lib.hid (fun k => pk_ok l sg hr k)
        have HRA := Lib.hid (fun (xs : List Nat) (k : Nat) (hk : k < xs.length) (hi : xs[k] < l.length) (h0 : 0 < l[xs[k]]) => read_at l hr hv xs hk hi h0)
        have HRd := Lib.hid (fun (D b g a : Nat) (o : Int) (s : ByteArray) (W : World) (ht : TblAt D W b l) (hrd : Rd 70 W g s a o) (ho : o = 0 ∨ o = 1) (ha : a ≤ 8 * s.size) (hs : s.size ≤ 1000000000000) (hD : D ≤ g) => read_any D b g l s a o W ht hrd ho ha hs hD hz)
        obtain ⟨i0, hi, hz0, hz1, hz2⟩ := info_parts infoI
        have HI0 := Lib.hid (And.intro hi (And.intro hz0 (And.intro hz1 hz2)))
        rw [hn, hq]
        clear hn hq h1 h2 hln hz hr hv hl288
        go_enter Try.func6, Try.ntmps6
        go_wp2_with fail
        refine (HNe.out w HB.out).mono ?_
        rintro e U1 ⟨b, rfl, hbN, htb, hb⟩
        have HB := Lib.hid (HB.out.trans (hb.mono HS.out))
        have HS := Lib.hid (Nat.le_trans HS.out hb.size)
        obtain ⟨D, hD⟩ : ∃ D, U1.heap.size = D := ⟨_, rfl⟩
        rw [hD] at htb
        have HT := Lib.hid htb
        have HD := Lib.hid hD
        clear hb htb hbN hD HNe
        go_wp2_with fail
        refine (HWn.out D U1 (Nat.le_of_eq HD.out.symm)).mono ?_
        rintro e U2 ⟨rfl, hg, hwr, hsz⟩
        rw [HD.out] at hwr hsz ⊢
        have hb12 : Below D U1 U2 := ⟨hg.os, hg.tape, hg.output, hg.size, fun k hk => hg.block k (by rw [HD.out]; exact hk) (by simp)⟩
        have HND : Hid (N ≤ D) := Lib.hid (by rw [← HD.out]; exact HS.out)
        have HI : Hid (BkRel N D b D l w (pk l sg 0) (.slice none 0 0) U2) := Lib.hid ⟨HB.out.trans (hb12.mono HND.out), HT.out.keep hb12, ⟨none, by rw [pk_zero]; exact hwr, fun q hq => by cases hq⟩, by rw [pk_zero]; exact World.ownsRow_nil U2 D 3 1, HND.out, Nat.le_refl _, by omega⟩
        clear hg hwr hsz hb12 HT HB HS HWn
        go_wp2_with fail
        go_loopw [8, 9, 10] (fun pv nv iv wr => ∃ (k : Nat) (A2 : Option Addr) (c2 : Nat), k ≤ q ∧ pv = .slice A2 (pk l sg k).length c2 ∧ nv = .int .i64 (bitsW l (pk l sg k) : Int) ∧ iv = .int .i64 (k : Int) ∧ Hid (BkRel N D b D l w (pk l sg k) (.slice A2 (pk l sg k).length c2) wr)) (fun _ _ iv _ => q - (intOf iv).toNat)
        case atStart => exact ⟨0, none, 0, by omega, by rw [pk_zero]; rfl, by rw [pk_zero]; rfl, rfl, by rw [pk_zero] at HI ⊢; exact HI⟩
        case round =>
          clear HI
          obtain ⟨k, A2, c2, hk, rfl, rfl, rfl, HI⟩ := hrel
          by_cases hlt : k < q
          · have hkq : k < sg.length := by rw [HQ.out]; exact hlt
            have hik : (k : Int) < (q : Int) := by omega
            have hik0 : (0 : Int) ≤ (k : Int) := by omega
            obtain ⟨b1, o1, rfl, _, c1⟩ := (HBB.out _ HI.out.below) k hkq
            have HC1 := Lib.hid (fun W (hb : Below N w W) => (HBB.out W hb).at_ k hkq)
            have HH := Lib.hid (HPH.out k hkq)
            have HM := Lib.hid (HPM.out k hkq)
            obtain ⟨y, hy⟩ : ∃ y, sg[k] = y := ⟨_, rfl⟩
            have hpl := HPL.out k
            rw [hy] at c1 HC1 HH HM
            have hle := HLE.out (pk l sg k)
            have hbl := HBL.out (pk l sg k)
            obtain ⟨xs, hxs⟩ : ∃ xs, pk l sg k = xs := ⟨_, rfl⟩
            rw [hxs] at HI HH HM hpl hle hbl ⊢
            obtain ⟨ln, hlne⟩ : ∃ ln, bitsW l xs = ln := ⟨_, rfl⟩
            obtain ⟨m, hm⟩ : ∃ m, xs.length = m := ⟨_, rfl⟩
            have hmb : m ≤ 200 := by rw [← hm]; have := HQ.out; omega
            have hlnb : ln ≤ 3000 := by rw [← hlne]; omega
            have hbb : (stW l xs).1.length ≤ 800000 := by omega
            have HM0 := Lib.hid hm
            have HL0 := Lib.hid hlne
            rw [hlne, hm]
            rw [hm] at HI
            have hlnI : (ln : Int) ≤ 3000 := by omega
            clear hy hpl hle hbl hxs hm hlne
            by_cases hy0 : y < 0
            · have HMs := Lib.hid (HM.out (by unfold okS; rw [decide_eq_false (show ¬ 0 ≤ y by omega)]; rfl))
              have HW := Lib.hid (HWb.out D b D y wr HI.out.tbl (Or.inl hy0))
              clear hbb
              go_wp2_with fail
              refine HW.out.mono ?_
              rintro e w1 ⟨rfl, hb⟩
              have HI1 := Lib.hid (HI.out.keep hb)
              have c1' := HC1.out w1 HI1.out.below
              clear hb HI HW
              go_wp2_with fail
              go_roundw
              case rel => exact ⟨k + 1, A2, c2, by omega, by rw [HMs.out, HM0.out], by rw [HMs.out, HL0.out], by go_num, by rw [HMs.out, HM0.out]; exact HI1⟩
              case measure => simp [intOf]; omega
            · by_cases hyn : (n : Int) ≤ y
              · have HMs := Lib.hid (HM.out (by unfold okS; rw [decide_eq_false (show ¬ y < (l.length : Int) by rw [HN.out]; omega), Bool.and_false]; rfl))
                have HW := Lib.hid (HWb.out D b D y wr HI.out.tbl (Or.inr (by rw [HN.out]; exact hyn)))
                clear hbb
                go_wp2_with fail
                refine HW.out.mono ?_
                rintro e w1 ⟨rfl, hb⟩
                have HI1 := Lib.hid (HI.out.keep hb)
                have c1' := HC1.out w1 HI1.out.below
                clear hb HI HW
                go_wp2_with fail
                go_roundw
                case rel => exact ⟨k + 1, A2, c2, by omega, by rw [HMs.out, HM0.out], by rw [HMs.out, HL0.out], by go_num, by rw [HMs.out, HM0.out]; exact HI1⟩
                case measure => simp [intOf]; omega
              · obtain ⟨i, rfl⟩ : ∃ i : Nat, y = (i : Int) := ⟨y.toNat, by omega⟩
                have hil : i < l.length := by rw [HN.out]; omega
                have hin : (i : Int) < (n : Int) := by omega
                have hi00 : (0 : Int) ≤ (i : Int) := by omega
                obtain ⟨b2, o2, rfl, _, c2x⟩ := (HA.out _ HI.out.below) i hil
                have HC2 := Lib.hid (fun W (hb : Below N w W) => (HA.out W hb).at_ i hil)
                have hrg := HRng.out i hil
                have HGD := Lib.hid (show l.getD ((i : Int)).toNat 0 = l[i] from gd l hil)
                have HOk := Lib.hid (show l[i] ≠ 0 → okS l (i : Int) = true from fun h => by
                  unfold okS
                  rw [decide_eq_true (show (0 : Int) ≤ (i : Int) by omega), decide_eq_true (show (i : Int) < (l.length : Int) by omega), HGD.out, decide_eq_true h]
                  rfl)
                have HNo := Lib.hid (show l[i] = 0 → okS l (i : Int) = false from fun h => by
                  unfold okS
                  rw [HGD.out, h, decide_eq_false (show ¬ (0 : Int) ≠ 0 by decide), Bool.and_false])
                have HWo1 := Lib.hid (HWo.out D b D i wr HI.out.tbl hil)
                have HWa1 := Lib.hid (fun r st => HWa.out D b D i r st wr HI.out.tbl hil)
                have HLn := Lib.hid (show bitsA l i = (l[i]).toNat by unfold bitsA; rw [gd l hil])
                obtain ⟨x, hx⟩ : ∃ x, l[i] = x := ⟨_, rfl⟩
                rw [hx] at HC2 hrg HOk HNo HWo1 HWa1 HLn
                clear hx c2x HGD
                by_cases hx0 : x = 0
                · have HMs := Lib.hid (HM.out (HNo.out hx0))
                  have HW := Lib.hid (HWo1.out hx0)
                  subst hx0
                  clear hbb hrg
                  go_wp2_with fail
                  refine HW.out.mono ?_
                  rintro e w1 ⟨rfl, hb⟩
                  have HI1 := Lib.hid (HI.out.keep hb)
                  have c1' := HC1.out w1 HI1.out.below
                  have c2' := HC2.out w1 HI1.out.below
                  clear hb HI HW
                  go_wp2_with fail
                  go_roundw
                  case rel => exact ⟨k + 1, A2, c2, by omega, by rw [HMs.out, HM0.out], by rw [HMs.out, HL0.out], by go_num, by rw [HMs.out, HM0.out]; exact HI1⟩
                  case measure => simp [intOf]; omega
                · have HHs := Lib.hid (HH.out (HOk.out hx0))
                  obtain ⟨r, hwr, hsep⟩ := HI.out.wr
                  have HSEP := Lib.hid (And.intro hwr hsep)
                  have HW := Lib.hid (HWa1.out r (stW l xs) (by omega) hwr (stW_good l xs) hbb (by have := HI.out.sz; omega))
                  have HSTW := Lib.hid (show stW l (xs ++ [i]) = wrS (codeAt l i) x.toNat (stW l xs) x.toNat by rw [stW_snoc, HLn.out])
                  have HLNW := Lib.hid (show bitsW l (xs ++ [i]) = ln + x.toNat by rw [bitsW_snoc, HLn.out, HL0.out])
                  have hx0b : (x == 0) = false := by simpa using hx0
                  obtain ⟨hxa, hxb⟩ := hrg
                  clear hwr hsep hbb
                  go_wp2_with fail
                  refine HW.out.mono ?_
                  rintro e w1 ⟨rfl, hwt⟩
                  have hW1 := HI.out.wrote HSEP.out.1 HSEP.out.2 hwt
                  have HW1 := Lib.hid hW1
                  have c1' := HC1.out w1 HW1.out.1
                  have c2' := HC2.out w1 HW1.out.1
                  clear hwt hW1 HI HW HSEP
                  obtain ⟨hi, hz0, hz1, hz2⟩ := HI0.out
                  have hDs : D < w1.heap.size := HW1.out.2.2.2.2.2.2
                  go_upto_region 22 with (at_builtin; refine wpList_append_lies _ rfl _ _ _ rfl D 3 i0 (.int .i64 0) 1 8 Try.underlying22 hi hz0 hz1 hz2 rfl (by decide) (.slice A2 m c2) m (iC (ints xs)) rfl (by exact World.ownsRow.alloc (show w1.ownsRow D 3 1 (.slice A2 m c2) m (iC (ints xs)) by have h := HW1.out.2.2.2.1; rw [HM0.out] at h; exact h) _) ⟨w1.heap.size, 0, none⟩ 1 1 [.int .i64 (i : Int)] rfl rfl (World.news_of_block (heap_alloc_new w1 _)) (by simp [Value.oneCell']) (by omega) (by unfold maxLen; omega) (by omega) (by simp; omega) (w1.heap.size + 1) (by simp) ?_; intro g cap2 w2 hown1 hgrow hat hlt1)
                  have HI2 := Lib.hid (bk_append (i := i) HW1.out.1 HW1.out.2.1 HW1.out.2.2.1 (by have h := HW1.out.2.2.2.1; rw [HM0.out] at h; exact h) HW1.out.2.2.2.2 HM0.out hown1 hgrow hat HSTW.out)
                  have c1'' := HC1.out w2 HI2.out.below
                  have c2'' := HC2.out w2 HI2.out.below
                  have HHs2 := Lib.hid (show pk l sg (k + 1) = xs ++ [i] by rw [HHs.out, Int.toNat_natCast])
                  have HLen := Lib.hid (show (xs ++ [i]).length = m + 1 by rw [List.length_append, HM0.out]; rfl)
                  clear hown1 hgrow hat hlt1 hi hz0 hz1 hz2 c1' c2' hDs HW1 HSTW
                  go_wp2_with fail
                  go_roundw
                  case rel => exact ⟨k + 1, some ⟨g, 0, none⟩, cap2, by omega, by rw [HHs2.out, HLen.out] <;> rfl, by rw [HHs2.out, HLNW.out]; congr 1; omega, by go_num, by rw [HHs2.out, HLen.out]; exact HI2⟩
                  case measure => simp [intOf]; omega
          · obtain rfl : k = q := by omega
            have hpl := HPL.out k
            have hle := HLE.out (pk l sg k)
            have hbl := HBL.out (pk l sg k)
            have hpo := HPO.out k
            have hra := HRA.out (pk l sg k)
            obtain ⟨xs, hxs⟩ : ∃ xs, pk l sg k = xs := ⟨_, rfl⟩
            rw [hxs] at HI hpl hle hbl hpo hra ⊢
            obtain ⟨r, hwr, hsep⟩ := HI.out.wr
            have HTx := Lib.hid (wtext_any D D r (stW l xs).1 (stW l xs).2.1 (stW l xs).2.2 wr hwr)
            obtain ⟨T, hT⟩ : ∃ T, (stW l xs).1 = T := ⟨_, rfl⟩
            rw [hT] at HTx hbl hra
            obtain ⟨s, hs⟩ : ∃ s : ByteArray, (⟨T.toArray⟩ : ByteArray) = s := ⟨_, rfl⟩
            have hsT : s.data.toList = T := by rw [← hs]
            have hsS : s.size = T.length := by rw [← hs]; rfl
            rw [hs] at HTx
            obtain ⟨tl, htl⟩ : ∃ tl, T.length = tl := ⟨_, rfl⟩
            rw [htl] at hbl hra hsS
            have HLN := Lib.hid (fun (r' : Option Nat) (W : World) (h : WrB D W D r' (stW l xs)) => by
              have h1 := wlen_any D D r' (stW l xs).1 (stW l xs).2.1 (stW l xs).2.2 W h
              rw [hT, htl] at h1
              exact h1)
            obtain ⟨ln, hlne⟩ : ∃ ln, bitsW l xs = ln := ⟨_, rfl⟩
            have HTake := Lib.hid (show bitsW l (xs.take xs.length) = ln by rw [List.take_length, hlne])
            have HMono := Lib.hid (show ∀ j, j ≤ xs.length → bitsW l (xs.take j) ≤ ln from fun j hj => by
              have := bitsW_mono l xs j (xs.length - j) (by omega)
              rw [show j + (xs.length - j) = xs.length by omega, List.take_length, hlne] at this
              exact this)
            rw [hlne] at hle hbl ⊢
            obtain ⟨m, hm⟩ : ∃ m, xs.length = m := ⟨_, rfl⟩
            have HM0 := Lib.hid hm
            obtain ⟨H, hH⟩ : ∃ H, wr.heap.size = H := ⟨_, rfl⟩
            have HFr := Lib.hid (rfrom_any s wr)
            rw [hH] at HFr
            have HSs := Lib.hid hsS
            have HSt := Lib.hid hsT
            have HRA1 := Lib.hid hra
            have HPO1 := Lib.hid hpo
            have hlnb : ln ≤ 3000 := by have := HQ.out; omega
            have htlb : tl ≤ 376 := by omega
            have hltl : ln ≤ 8 * tl := by omega
            have hq8 : ((ln : Int) + 7) / 8 = (tl : Int) := by omega
            have hlnI : (ln : Int) ≤ 3000 := by omega
            have hln0 : (0 : Int) ≤ (ln : Int) := by omega
            have htlI : (tl : Int) ≤ 376 := by omega
            have hmI : (m : Int) ≤ 200 := by have := HQ.out; omega
            rw [hm] at HI ⊢
            have HWR := Lib.hid (And.intro hwr hH)
            clear hwr hsep hpl hle hbl hpo hra hT hs hsT hsS htl hlne hm hH hxs
            go_wp2_with fail
            refine HTx.out.mono ?_
            rintro e w1 ⟨rfl, rfl⟩
            go_wp2_with fail
            refine HFr.out.mono ?_
            rintro e w2 ⟨rfl, hg, hrd, hsz⟩
            have hb12 : Below wr.heap.size wr w2 := ⟨hg.os, hg.tape, hg.output, hg.size, fun k hk => hg.block k hk (by simp)⟩
            have HJ : Hid (RkRel N D b D H l w xs (.slice A2 m c2) s 0 w2) := Lib.hid (by
              have hz := HI.out.sz
              have hH := HWR.out.2
              refine ⟨HI.out.below.trans (hb12.mono (by omega)), HI.out.tbl.keep (hb12.mono (by omega)), ⟨r, wrB_grown HWR.out.1 hg (by simp) (by cases r <;> simp), fun e => ?_⟩, ⟨?_, fun e => ?_⟩, ⟨0, Or.inl rfl, by rw [List.take_zero]; exact hrd⟩, hz.1, by omega, by omega, by omega⟩
              · have := (Wr.row_in HWR.out.1 H e).2
                omega
              · rw [HM0.out]
                have h1 := own_below HI.out.own hb12
                rw [HM0.out] at h1
                exact h1
              · have h1 := (World.ownsRow.lt HI.out.own H e).2
                omega)
            clear hg hrd hsz hb12 HI HTx HFr
            go_wp2_with fail
            go_loopw [13] (fun iv wr => ∃ j : Nat, j ≤ m ∧ iv = .int .i64 (j : Int) ∧ Hid (RkRel N D b D H l w xs (.slice A2 m c2) s j wr)) (fun iv _ => m - (intOf iv).toNat)
            case atStart => exact ⟨0, by omega, rfl, HJ⟩
            case round =>
              clear HJ
              obtain ⟨j, hj, rfl, HJ⟩ := hrel
              by_cases hlt2 : j < m
              · have hjx : j < xs.length := by rw [HM0.out]; exact hlt2
                have hjI : (j : Int) < (m : Int) := by omega
                have hj0 : (0 : Int) ≤ (j : Int) := by omega
                obtain ⟨hi1, hi2⟩ := HPO1.out xs[j] (List.getElem_mem hjx)
                have hrs := HRA1.out j hjx hi1 hi2
                obtain ⟨od, hod, hrd⟩ := HJ.out.rd
                have hmo := HMono.out j (by omega)
                have HR := Lib.hid (HRd.out D b H (bitsW l (xs.take j)) od s wr HJ.out.tbl hrd hod (by rw [HSs.out]; omega) (by rw [HSs.out]; omega) HJ.out.sz.2.1)
                rw [HSt.out, HSs.out, hrs] at HR
                have HIn := Lib.hid (show (ints xs)[j]'(by rw [ints_len]; exact hjx) = (xs[j] : Int) by simp [ints])
                obtain ⟨R, rfl⟩ : ∃ R, A2 = some ⟨R, 0, none⟩ := by
                  rcases HJ.out.own.1.2 with ⟨_, h2⟩ | ⟨g, c3, _, h1, _⟩
                  · rw [HM0.out] at h2; omega
                  · injection h1 with h1 h2 h3
                    exact ⟨g, h1⟩
                obtain ⟨v, hv⟩ : ∃ v, xs[j] = v := ⟨_, rfl⟩
                rw [hv] at HR HIn
                clear hv hrs hrd hod hi1 hi2 hmo
                go_wp2_with fail
                refine HR.out.mono ?_
                rintro e w3 ⟨rfl, o2, ho2, hnow⟩
                have HJ3 := Lib.hid (HJ.out.read (j' := j + 1) ho2 hnow)
                have c3 : w3.cell? ⟨R, j, none⟩ = some (.int .i64 (v : Int)) := by
                  have h1 := own_iat (show OwnI w3 D (.slice (some ⟨R, 0, none⟩) m c2) m (ints xs) by have h := HJ3.out.own.1; rw [HM0.out] at h; exact h) (by rw [ints_len, HM0.out])
                  have h2 := h1.at_ j (by rw [ints_len]; exact hjx)
                  rw [HIn.out, Nat.zero_add] at h2
                  exact h2
                clear hnow ho2 HR HJ
                go_wp2_with fail
                go_roundw
                case rel => exact ⟨j + 1, by omega, by go_num, HJ3⟩
                case measure => simp [intOf]; omega
              · obtain rfl : j = m := by omega
                obtain ⟨r2, hwr2, _⟩ := HJ.out.wr
                obtain ⟨od, hod, hrd⟩ := HJ.out.rd
                rw [show xs.take j = xs.take xs.length by rw [HM0.out], HTake.out] at hrd
                have HL1 := Lib.hid (HLN.out r2 wr hwr2)
                have HLf := Lib.hid (rleft_any H s ln od wr hrd (by rw [HSs.out]; exact hltl) (by rw [HSs.out]; omega))
                rw [HSs.out, show ((8 * tl : Nat) : Int) - (ln : Int) = 8 * (tl : Int) - (ln : Int) by push_cast; rfl] at HLf
                have HL2 : Hid (∀ qq, Calls Try.prog 27 #[.pointer (some ⟨D, 0, none⟩)] (wr.drewN qq) fun e w' => e = .returned (.int .i64 (tl : Int)) ∧ wr.drewN qq = w') := Lib.hid (fun qq => by
                  obtain ⟨r3, h3, _⟩ := (HJ.out.drewN qq).wr
                  exact HLN.out r3 _ h3)
                clear hwr2 hrd hod
                go_wp2_with fail
                refine HL1.out.mono ?_
                rintro e w3 ⟨rfl, rfl⟩
                go_wp2_with fail
                refine HLf.out.mono ?_
                rintro e w3 ⟨rfl, qq, rfl⟩
                go_wp2_with fail
                refine (HL2.out qq).mono ?_
                rintro e w3 ⟨rfl, rfl⟩
                go_wp2_with fail
                refine (HLV.out _).mono ?_
                rintro e w4 ⟨rfl, hb⟩
                have HFin := Lib.hid ((HJ.out.drewN qq).below.trans (hb.mono (by have := (HJ.out.drewN qq).sz; omega)))
                clear hb
                go_wp2_with fail
                go_ret
                exact ⟨rfl, HFin.out⟩
      · have h0b : (z == 0) = false := by simpa using h0
        have HO3 : Hid (∀ W, Below N w W → Calls Try.prog 11 #[.slice A n ca] W fun e w' => e = .returned (.tuple #[.pointer none, .int .i64 z]) ∧ Below W.heap.size W w') := Lib.hid (fun W hb => by have h := new_no A ca l W (HA.out W hb) hln z hz h0; rw [hn] at h; exact h)
        rw [hn, hq]
        clear hn hq h1 h2 hln hz
        go_enter Try.func6, Try.ntmps6
        go_wp2_with fail
        refine (HO3.out w HB.out).mono ?_
        rintro e U1 ⟨rfl, hb⟩
        have HB := Lib.hid (HB.out.trans (hb.mono HS.out))
        have HS := Lib.hid (Nat.le_trans HS.out hb.size)
        clear hb
        go_wp2_with fail
        refine (HLV.out U1).mono ?_
        rintro e U2 ⟨rfl, hb⟩
        have HB := Lib.hid (HB.out.trans (hb.mono HS.out))
        clear hb
        go_wp2_with fail
        go_ret
        exact ⟨rfl, HB.out⟩
end Go.Proofs.Ytbgechfmbogbpaa
