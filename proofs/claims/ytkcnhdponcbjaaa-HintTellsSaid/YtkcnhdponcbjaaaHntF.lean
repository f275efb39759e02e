/-
  hint's encoded: the text of a valid list.
-/
import Derived.Test.YtkcnhdponcbjaaaHntD
import Derived.Test.YtkcnhdponcbjaaaHntE
import Derived.Deep.RegionHeld3
namespace Go.Proofs.Ytkcnhdponcbjaaa
open Go.RowKit Bt Hnt

/-! ### The states of the writer. -/
def hdS (l : List H3) : Nat → St
  | 0 => putLong st0 (l.length : Int)
  | j + 1 => putLong (hdS l j) (lst j l)
def wdS (l : List H3) : Nat → St
  | 0 => hdS l 3
  | j + 1 => put (wdS l j) (wdt j l : Nat) 16
theorem wdS_three (l : List H3) : wdS l 3 = wdtS l := rfl
theorem good_hd {l : List H3} (h : allOk l) (hne : l ≠ []) (hl : l.length ≤ 2048) : ∀ j, j ≤ 3 → good (hdS l j)
  | 0, _ => good_long good0 (by omega) (by omega)
  | j + 1, hj => by
    have := lst_in h hne (c := j) (by omega)
    exact good_long (good_hd h hne hl j (by omega)) this.1 this.2
theorem hd_len (l : List H3) : ∀ j, (hdS l j).1.length ≤ 48 * (j + 1)
  | 0 => putLong_len st0 _
  | j + 1 => by
    have h1 := hd_len l j
    have h2 := putLong_len (hdS l j) (lst j l)
    show (putLong (hdS l j) (lst j l)).1.length ≤ _
    omega
theorem two16 : (2 : Int) ^ (16 : Int).toNat = 65536 := rfl
theorem good_wd {l : List H3} (h : allOk l) (hne : l ≠ []) (hl : l.length ≤ 2048) : ∀ j, j ≤ 3 → good (wdS l j)
  | 0, _ => good_hd h hne hl 3 (by omega)
  | j + 1, hj => by
    have := wdt_le h hne (c := j) (by omega)
    exact good_put (good_wd h hne hl j (by omega)) (by omega) (by omega) (by omega) (by rw [two16]; omega)
theorem wd_len (l : List H3) : ∀ j, (wdS l j).1.length ≤ 192 + 24 * j
  | 0 => hd_len l 3
  | j + 1 => by
    have h1 := wd_len l j
    have h2 := put_len (wdS l j) (wdt j l : Nat) 16
    show (put (wdS l j) (wdt j l : Nat) 16).1.length ≤ _
    omega
theorem getD_in {l : List H3} {k : Nat} (hk : k < l.length) : l.getD k (0, 0, 0) = l[k] := by
  rw [List.getD_eq_getElem?_getD, List.getElem?_eq_getElem hk]
  rfl
theorem two_nat (n : Nat) : (2 : Int) ^ (n : Int).toNat = 2 ^ n := by rw [Int.toNat_natCast]
theorem good_col {l : List H3} (h : allOk l) (hne : l ≠ []) {c : Nat} (hc : c < 3) {st : St} (hg : good st) : ∀ k, k ≤ l.length → good (colS c (lst c l) (wdt c l) l st k)
  | 0, _ => hg
  | k + 1, hk => by
    have h1 := good_col h hne hc hg k (by omega)
    have h2 := diff_in (List.getElem_mem (show k < l.length by omega)) c
    have h3 := wdt_le h hne hc
    show good (put _ (clm c (l.getD k (0, 0, 0)) - lst c l) ((wdt c l : Nat) : Int))
    rw [getD_in (show k < l.length by omega)]
    exact good_put h1 h2.1 (by omega) (by omega) (by rw [two_nat]; exact h2.2)
theorem col_len (c : Nat) (x : Int) (n : Nat) (l : List H3) (st : St) : ∀ k, (colS c x n l st k).1.length ≤ st.1.length + 24 * k
  | 0 => Nat.le_refl _
  | k + 1 => by
    have h1 := col_len c x n l st k
    have h2 := put_len (colS c x n l st k) (clm c (l.getD k (0, 0, 0)) - x) (n : Int)
    show (put _ _ _).1.length ≤ _
    omega
theorem good_cols {l : List H3} {st : St} (hg : good st) : ∀ c, good (colsS l st c)
  | 0 => hg
  | _ + 1 => good_aln _
theorem cols_len (l : List H3) (st : St) : ∀ c, (colsS l st c).1.length ≤ st.1.length + 24 * l.length * c
  | 0 => Nat.le_refl _
  | c + 1 => by
    have h1 := cols_len l st c
    have h2 := col_len c (lst c l) (wdt c l) l (colsS l st c) l.length
    show (colS c (lst c l) (wdt c l) l (colsS l st c) l.length).1.length ≤ _
    rw [Nat.mul_succ]
    omega

set_option maxRecDepth 100000 in
set_option maxHeartbeats 2000000 in
theorem hput_r (B g b : Nat) (r : Option Nat) (st : St) (v n : Int) (w : World) (hb : Blk w b 63 #[.pointer (some ⟨g, 0, none⟩)]) (hB : B ≤ w.heap.size) (hw : WrS B w g r st) (hg : good st) (hl : st.1.length ≤ 900000)
    (hv : 0 ≤ v) (hn : 0 ≤ n) (hn2 : n ≤ 24) (hlt : v < 2 ^ n.toNat) :
    Calls Try.prog 40 #[.int .i64 v, .int .i64 n, .pointer (some ⟨b, 0, none⟩)] w fun e w' => e = .returned (.tuple #[]) ∧ WroteS B w g r (put st v n) w' := by
  have hbad := wbad_in hg.2 hv hn hn2 hlt
  have HP := Lib.hid (whigh_any B g r st.1 st.2.1 st.2.2 v n w hl hB hw hg.1)
  have hE : wrE st.2.2 v n 2 = 0 := by unfold wrE; rw [hbad]; rfl
  unfold Put at HP
  rw [hE] at HP
  have c0 := hb.cell 0
  simp only [List.getElem?_toArray, List.getElem?_cons_zero] at c0
  clear hw hb hE hbad hg hv hlt
  go_enter Try.func40, Try.ntmps40
  go_wp2_with fail
  refine HP.out.mono ?_
  rintro e w1 ⟨rfl, hw⟩
  have HW := Lib.hid (show WroteS B w g r (put st v n) w1 from hw)
  clear hw
  go_wp2_with fail
  refine (upon_ok _).mono ?_
  rintro e w2 ⟨rfl, rfl⟩
  go_wp2_with fail
  go_end0
  exact ⟨rfl, HW.out⟩
theorem halign_any (B g : Nat) (st : St) (W w : World) (h : WroteS B W g none st w) :
    Calls Try.prog 45 #[.pointer (some ⟨g, 0, none⟩)] w fun e w' => e = .returned (.tuple #[]) ∧ WroteS B W g none (aln st) w' := by
  obtain ⟨r, hr, hw, ht⟩ := h
  refine (walign_any B g r st.1 st.2.1 st.2.2 w hw).mono ?_
  rintro e w' ⟨rfl, h⟩
  exact ⟨rfl, Wrote.then hr ht h⟩
theorem htext_any (B g : Nat) (st : St) (W w : World) (h : WroteS B W g none st w) :
    Calls Try.prog 46 #[.pointer (some ⟨g, 0, none⟩)] w fun e w' => e = .returned (.string ⟨st.1.toArray⟩) ∧ w = w' := by
  obtain ⟨r, hr, hw, ht⟩ := h
  exact wtext_any B g r st.1 st.2.1 st.2.2 w hw
theorem WroteS.below {B : Nat} {W w : World} {g : Nat} {st : St} (h : WroteS B W g none st w) {N : Nat} (hN : N ≤ g) (hs : N ≤ W.heap.size) : Below N W w := by
  obtain ⟨_, _, _, ht⟩ := h
  exact ht.below hs hN (fun k e => by cases e)
end Go.Proofs.Ytkcnhdponcbjaaa
