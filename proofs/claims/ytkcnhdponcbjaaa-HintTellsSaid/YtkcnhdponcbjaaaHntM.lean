/-
  Plain mathematics of the layer hint: what is written is read: the text of a valid list, with anything behind it, is decoded as the list.
-/
import Derived.Test.YtkcnhdponcbjaaaHntJ
import Derived.Test.YtkcnhdponcbjaaaHntF
import Derived.Test.YtkcnhdponcbjaaaBitBm
namespace Go.Proofs.Ytkcnhdponcbjaaa
open Bt Hnt

theorem hpos_le {T l : List UInt8} {p : Nat} {o : Int} (h : Ext T l p o) (hf : Fit o l p) : pos l p ≤ 8 * T.length := by
  have h1 := h.len
  have h8 := hf.1
  unfold pos
  split
  · omega
  · have := List.length_pos_iff.2 (hf.ne_ (by omega))
    omega
theorem hpos_alg {l : List UInt8} {p : Nat} {o : Int} (hf : Fit o l p) : alg (pos l p) = pos l 0 := by
  have h8 := hf.1
  unfold pos alg
  rw [if_pos rfl]
  split
  · omega
  · have := List.length_pos_iff.2 (hf.ne_ (by omega))
    omega
/-- The reader's place where the writer stood. -/
def rS (st : St) : RS := (pos st.1 st.2.1, st.2.2)
def ExtS (s : ByteArray) (st : St) : Prop := Ext s.data.toList st.1 st.2.1 st.2.2
theorem hread_num {T : List UInt8} {tot a n v : Nat} {ord o : Int} (ho : ord = 0 ∨ ord = o) (hn : n ≤ 24) (ht : a + n ≤ tot) (hv : valO o T a n = v) :
    rdV T tot a ord (n : Int) o = (v : Int) ∧ rdE tot a ord (n : Int) o = 0 ∧ rdAt tot a ord (n : Int) o = a + n ∧ rdOrd tot a ord (n : Int) o = if 0 < ((n : Nat) : Int) then o else ord := by
  have hb : bad ord (n : Int) o = false := by unfold bad; simp; omega
  obtain ⟨h1, h2, h3, h4⟩ := rd_ok (tot := tot) (at_ := a) (l := T) hb (by omega)
  refine ⟨h2.trans ?_, h1, h3, h4⟩
  show ((valO o T a n : Nat) : Int) = _
  rw [hv]
theorem tk_put {s : ByteArray} {st : St} {v n : Int} (hg : good st) (hv : 0 ≤ v) (hn : 0 ≤ n) (hn2 : n ≤ 24) (hlt : v < 2 ^ n.toNat) (h : ExtS s (put st v n)) :
    ExtS s st ∧ tkE s (rS st) n = 0 ∧ tkV s (rS st) n = v ∧ tkS s (rS st) n = rS (put st v n) := by
  have hgp := good_put hg hv hn hn2 hlt
  have hw := wbad_in hg.2 hv hn hn2 hlt
  obtain ⟨m, rfl⟩ : ∃ m : Nat, n = (m : Int) := ⟨n.toNat, by omega⟩
  obtain ⟨u, rfl⟩ : ∃ u : Nat, v = (u : Int) := ⟨v.toNat, by omega⟩
  rw [Int.toNat_natCast] at hlt
  have hu : u < 2 ^ m := by
    have e : ((2 : Int) ^ m) = ((2 ^ m : Nat) : Int) := by push_cast; rfl
    rw [e] at hlt
    omega
  obtain ⟨l, p, o⟩ := st
  obtain ⟨_, e1, e2, e3⟩ := wr_ok hw l p
  obtain ⟨hf, ho⟩ := hg
  have hf' : Fit o l p := hf
  have ho' : o = 0 ∨ o = 2 := ho
  have hq : 0 < p → o = 2 := fun hp => by rcases (hf'.2 hp).2.1 with e | e <;> omega
  have hpos0 := hpos_le (show Ext s.data.toList (wrL l p o (u : Int) (m : Int) 2) (wrP p o (u : Int) (m : Int) 2) (wrO o (u : Int) (m : Int) 2) from h) hgp.1
  have h0 : Ext s.data.toList (wrL l p o (u : Int) (m : Int) 2) (wrP p o (u : Int) (m : Int) 2) (wrO o (u : Int) (m : Int) 2) := h
  rw [e1, e2] at h0 hpos0
  rw [Int.toNat_natCast, Int.toNat_natCast] at h0 hpos0 e1
  rw [Int.toNat_natCast] at e2
  have h' : Ext s.data.toList (puts 2 l p (bitO 2 u m) m) ((p + m) % 8) 2 := h0.ord (fun hp => by
    rw [e3]
    split
    · rfl
    · rename_i h0
      have : m = 0 := by omega
      rw [this] at hp
      exact hq (by have := hf'.1; omega))
  obtain ⟨hE, hbits⟩ := ext_puts hf' hq (Or.inr rfl) (fun _ => bitO_lt _ _ _ _) m h'
  have hval := valO_bits (Or.inr rfl) hu hbits
  have hps := pos_puts (f := bitO 2 u m) hf' hq (Or.inr rfl) (fun _ => bitO_lt _ _ _ _) m
  rw [hps] at hpos0
  have hsz : s.data.toList.length = s.size := by simp
  obtain ⟨r1, r2, r3, r4⟩ := hread_num (T := s.data.toList) (tot := 8 * s.size) (ord := o) ho' (show m ≤ 24 by omega) (by rw [← hsz]; exact hpos0) hval
  refine ⟨hE.ord (fun hp => (hq hp).symm), r2, r1, ?_⟩
  show (rdAt _ _ _ _ _, rdOrd _ _ _ _ _) = (pos (wrL l p o (u : Int) (m : Int) 2) (wrP p o (u : Int) (m : Int) 2), wrO o (u : Int) (m : Int) 2)
  rw [e1, e2, e3, hps]
  exact Prod.ext r3 r4
theorem two16n : (2 : Int) ^ (16 : Int).toNat = 65536 := rfl
theorem long_put {s : ByteArray} {st : St} {v : Int} (hg : good st) (hv : 0 ≤ v) (hv2 : v ≤ 1048576) (h : ExtS s (putLong st v)) :
    ExtS s st ∧ longR s (rS st) = some (v, rS (putLong st v)) := by
  have g1 : good (put st (v / 65536) 16) := good_put hg (by omega) (by omega) (by omega) (by rw [two16n]; omega)
  obtain ⟨h1, a1, a2, a3⟩ := tk_put g1 (show 0 ≤ v % 65536 by omega) (by omega) (by omega) (by rw [two16n]; omega) h
  obtain ⟨h2, b1, b2, b3⟩ := tk_put hg (show 0 ≤ v / 65536 by omega) (by omega) (by omega) (by rw [two16n]; omega) h1
  refine ⟨h2, ?_⟩
  unfold longR
  rw [if_pos b1, b2, if_neg (by omega), b3, if_pos a1, a2, a3]
  congr 2
  omega
theorem aln_back {s : ByteArray} {st : St} (hg : good st) (h : ExtS s (aln st)) : ExtS s st ∧ (alg (rS st).1, (0 : Int)) = rS (aln st) := by
  refine ⟨Ext.align (o' := 0) h hg.1.ne_, ?_⟩
  show (alg (pos st.1 st.2.1), (0 : Int)) = (pos st.1 0, 0)
  rw [hpos_alg hg.1]
/-- The columns' states stand in the text. -/
theorem ext_col {s : ByteArray} {l : List H3} (h : allOk l) (hne : l ≠ []) {c : Nat} (hc : c < 3) {st : St} (hg : good st) : ∀ m k, k + m = l.length → ExtS s (colS c (lst c l) (wdt c l) l st l.length) → ExtS s (colS c (lst c l) (wdt c l) l st k)
  | 0, k, hk, hE => by rw [show k = l.length by omega]; exact hE
  | m + 1, k, hk, hE => by
    have h1 := ext_col h hne hc hg m (k + 1) (by omega) hE
    have h2 := diff_in (List.getElem_mem (show k < l.length by omega)) c
    have h3 := wdt_le h hne hc
    have hd : l.getD k (0, 0, 0) = l[k]'(by omega) := by rw [List.getD_eq_getElem?_getD, List.getElem?_eq_getElem (by omega)]; rfl
    have h4 : ExtS s (put (colS c (lst c l) (wdt c l) l st k) (clm c (l.getD k (0, 0, 0)) - lst c l) ((wdt c l : Nat) : Int)) := h1
    rw [hd] at h4
    exact (tk_put (good_col h hne hc hg k (by omega)) h2.1 (by omega) (by omega) (by rw [two_nat]; exact h2.2) h4).1
theorem col_read {s : ByteArray} {l : List H3} (h : allOk l) (hne : l ≠ []) {c : Nat} (hc : c < 3) {st : St} (hg : good st) (hE : ExtS s (colS c (lst c l) (wdt c l) l st l.length)) :
    ∀ (m k : Nat) (rows : List H3), k + m = l.length → rows.length = l.length →
      ∃ rows', colRun s c (lst c l) (wdt c l : Nat) m k rows (rS (colS c (lst c l) (wdt c l) l st k)) = some (rows', rS (colS c (lst c l) (wdt c l) l st l.length)) ∧ rows'.length = l.length ∧
        (∀ j, j < k → rows'.getD j (0, 0, 0) = rows.getD j (0, 0, 0)) ∧ ∀ j, k ≤ j → j < l.length → rows'.getD j (0, 0, 0) = setC c (clm c (l.getD j (0, 0, 0))) (rows.getD j (0, 0, 0))
  | 0, k, rows, hk, hl => by
    obtain rfl : k = l.length := by omega
    exact ⟨rows, rfl, hl, fun _ _ => rfl, fun j h1 h2 => absurd h1 (by omega)⟩
  | m + 1, k, rows, hk, hl => by
    have h2 := diff_in (List.getElem_mem (show k < l.length by omega)) c
    have h3 := wdt_le h hne hc
    have hd : l.getD k (0, 0, 0) = l[k]'(by omega) := by rw [List.getD_eq_getElem?_getD, List.getElem?_eq_getElem (by omega)]; rfl
    have h1 := ext_col h hne hc hg m (k + 1) (by omega) hE
    have h4 : ExtS s (put (colS c (lst c l) (wdt c l) l st k) (clm c (l.getD k (0, 0, 0)) - lst c l) ((wdt c l : Nat) : Int)) := h1
    have hput : colS c (lst c l) (wdt c l) l st (k + 1) = put (colS c (lst c l) (wdt c l) l st k) (clm c (l.getD k (0, 0, 0)) - lst c l) ((wdt c l : Nat) : Int) := rfl
    rw [hd] at h4 hput
    obtain ⟨_, a1, a2, a3⟩ := tk_put (good_col h hne hc hg k (by omega)) h2.1 (show (0 : Int) ≤ ((wdt c l : Nat) : Int) by omega) (by omega) (by rw [two_nat]; exact h2.2) h4
    obtain ⟨rows', b1, b2, b3, b4⟩ := col_read h hne hc hg hE m (k + 1) (rows.set k (setC c (clm c (l[k]'(by omega))) (rows.getD k (0, 0, 0)))) (by omega) (by rw [List.length_set]; exact hl)
    have hself : (rows.set k (setC c (clm c (l[k]'(by omega))) (rows.getD k (0, 0, 0)))).getD k (0, 0, 0) = setC c (clm c (l[k]'(by omega))) (rows.getD k (0, 0, 0)) := by
      rw [List.getD_eq_getElem?_getD, List.getElem?_set_self (by omega)]; rfl
    have hother : ∀ j, j ≠ k → (rows.set k (setC c (clm c (l[k]'(by omega))) (rows.getD k (0, 0, 0)))).getD j (0, 0, 0) = rows.getD j (0, 0, 0) := fun j hj => by
      rw [List.getD_eq_getElem?_getD, List.getElem?_set_ne (by omega), List.getD_eq_getElem?_getD]
    refine ⟨rows', ?_, b2, fun j hj => ?_, fun j h5 h6 => ?_⟩
    · unfold colRun
      rw [if_pos a1, a2, a3, show lst c l + (clm c (l[k]'(by omega)) - lst c l) = clm c (l[k]'(by omega)) by omega, ← hput]
      exact b1
    · rw [b3 j (by omega), hother j (by omega)]
    · by_cases e : j = k
      · subst e
        rw [b3 j (by omega), hself, hd]
      · rw [b4 j (by omega) h6, hother j e]
theorem mL_yes {s : ByteArray} {p m c : Nat} {A : H3} {r r' : RS} {v : Int} (h : longR s r = some (v, r')) : rL s p (m + 1) c A r = rL s p m (c + 1) (setC c v A) r' := by
  conv => lhs; unfold rL
  rw [h]
theorem mW_yes {s : ByteArray} {p m c : Nat} {A W : H3} {r r' : RS} {v : Int} (h : tkE s r 16 = 0) (hv : tkV s r 16 = v) (hr : tkS s r 16 = r') : rW s p (m + 1) c A W r = rW s p m (c + 1) A (setC c v W) r' := by
  conv => lhs; unfold rW
  rw [if_pos h, hv, hr]
theorem mC_yes {s : ByteArray} {p m c : Nat} {A W : H3} {rows rows' : List H3} {r r' r2 : RS} (h : colRun s c (clm c A) (clm c W) p 0 rows r = some (rows', r')) (h2 : (alg r'.1, (0 : Int)) = r2) : rC s p (m + 1) c A W rows r = rC s p m (c + 1) A W rows' r2 := by
  conv => lhs; unfold rC
  rw [h, ← h2]
theorem cols_read {s : ByteArray} {l : List H3} (h : allOk l) (hne : l ≠ []) {st : St} (hg : good st) {c : Nat} (hc : c < 3) (hE : ExtS s (colsS l st (c + 1))) (rows : List H3) (hl : rows.length = l.length) :
    ExtS s (colsS l st c) ∧ ∃ rows' r', colRun s c (lst c l) (wdt c l : Nat) l.length 0 rows (rS (colsS l st c)) = some (rows', r') ∧ (alg r'.1, (0 : Int)) = rS (colsS l st (c + 1)) ∧ rows'.length = l.length ∧ ∀ j, j < l.length → rows'.getD j (0, 0, 0) = setC c (clm c (l.getD j (0, 0, 0))) (rows.getD j (0, 0, 0)) := by
  have hgc : good (colsS l st c) := good_cols hg c
  have hge := good_col h hne hc hgc l.length (Nat.le_refl _)
  obtain ⟨h1, h2⟩ := aln_back hge (show ExtS s (aln (colS c (lst c l) (wdt c l) l (colsS l st c) l.length)) from hE)
  have h3 := ext_col h hne hc hgc l.length 0 (by omega) h1
  obtain ⟨rows', b1, b2, _, b4⟩ := col_read h hne hc hgc h1 l.length 0 rows (by omega) hl
  exact ⟨h3, rows', _, b1, h2, b2, fun j hj => b4 j (Nat.zero_le _) hj⟩
theorem ext_front {s : ByteArray} {x rest : List UInt8} (h : s.data.toList = x ++ rest) : Ext s.data.toList x 0 0 := by
  refine ⟨by rw [h, List.length_append]; omega, fun j hj => ?_, fun hp => absurd hp (by decide)⟩
  rw [if_pos rfl] at hj
  rw [h]
  unfold byt
  rw [List.getD_eq_getElem?_getD, List.getD_eq_getElem?_getD, List.getElem?_append_left hj]
theorem dec_text {s : ByteArray} {l : List H3} {rest : List UInt8} (h : allOk l) (hne : l ≠ []) (hl : l.length ≤ 2048) (hs : s.data.toList = textS l ++ rest) : decH s = some l := by
  have hgw : good (wdtS l) := good_wd h hne hl 3 (Nat.le_refl _)
  have e3 : ExtS s (colsS l (wdtS l) 3) := ext_front hs
  -- the columns, from the last to the first, for any rows
  have hc0 : ExtS s (colsS l (wdtS l) 2) := (cols_read h hne hgw (c := 2) (by omega) e3 l rfl).1
  have hc1 : ExtS s (colsS l (wdtS l) 1) := (cols_read h hne hgw (c := 1) (by omega) hc0 l rfl).1
  obtain ⟨e0, rows1, r1, a1, a2, a3, a4⟩ := cols_read h hne hgw (c := 0) (by omega) hc1 (List.replicate l.length (0, 0, 0)) List.length_replicate
  obtain ⟨_, rows2, r2, b1, b2, b3, b4⟩ := cols_read h hne hgw (c := 1) (by omega) hc0 rows1 a3
  obtain ⟨_, rows3, r3, c1, c2, c3, c4⟩ := cols_read h hne hgw (c := 2) (by omega) e3 rows2 b3
  have hrows : rows3 = l := by
    apply List.ext_getElem c3
    intro j h1 h2
    have d1 : rows3.getD j (0, 0, 0) = rows3[j] := by rw [List.getD_eq_getElem?_getD, List.getElem?_eq_getElem h1]; rfl
    have d2 : l.getD j (0, 0, 0) = l[j] := by rw [List.getD_eq_getElem?_getD, List.getElem?_eq_getElem h2]; rfl
    have e := c4 j h2
    rw [b4 j h2, a4 j h2, d1, d2] at e
    rw [e]
    rfl
  subst hrows
  -- the widths
  have w3 : ExtS s (put (wdS rows3 2) (wdt 2 rows3 : Nat) 16) := e0
  have u2 := wdt_le h hne (c := 2) (by omega)
  have u1 := wdt_le h hne (c := 1) (by omega)
  have u0 := wdt_le h hne (c := 0) (by omega)
  obtain ⟨w2, f1, f2, f3⟩ := tk_put (good_wd h hne hl 2 (by omega)) (show (0 : Int) ≤ ((wdt 2 rows3 : Nat) : Int) by omega) (by omega) (by omega) (by rw [two16n]; omega) w3
  obtain ⟨w1, g1, g2, g3⟩ := tk_put (good_wd h hne hl 1 (by omega)) (show (0 : Int) ≤ ((wdt 1 rows3 : Nat) : Int) by omega) (by omega) (by omega) (by rw [two16n]; omega) (show ExtS s (put (wdS rows3 1) (wdt 1 rows3 : Nat) 16) from w2)
  obtain ⟨w0, k1, k2, k3⟩ := tk_put (good_wd h hne hl 0 (by omega)) (show (0 : Int) ≤ ((wdt 0 rows3 : Nat) : Int) by omega) (by omega) (by omega) (by rw [two16n]; omega) (show ExtS s (put (wdS rows3 0) (wdt 0 rows3 : Nat) 16) from w1)
  -- the head
  have i2 := lst_in h hne (c := 2) (by omega)
  have i1 := lst_in h hne (c := 1) (by omega)
  have i0 := lst_in h hne (c := 0) (by omega)
  obtain ⟨x2, m2⟩ := long_put (good_hd h hne hl 2 (by omega)) i2.1 i2.2 (show ExtS s (putLong (hdS rows3 2) (lst 2 rows3)) from w0)
  obtain ⟨x1, m1⟩ := long_put (good_hd h hne hl 1 (by omega)) i1.1 i1.2 (show ExtS s (putLong (hdS rows3 1) (lst 1 rows3)) from x2)
  obtain ⟨x0, m0⟩ := long_put (good_hd h hne hl 0 (by omega)) i0.1 i0.2 (show ExtS s (putLong (hdS rows3 0) (lst 0 rows3)) from x1)
  obtain ⟨_, mm⟩ := long_put good0 (show (0 : Int) ≤ ((rows3.length : Nat) : Int) by omega) (by omega) (show ExtS s (putLong st0 (rows3.length : Int)) from x0)
  have m0 : longR s (rS (hdS rows3 0)) = some (lst 0 rows3, rS (hdS rows3 1)) := m0
  have m1 : longR s (rS (hdS rows3 1)) = some (lst 1 rows3, rS (hdS rows3 2)) := m1
  have m2 : longR s (rS (hdS rows3 2)) = some (lst 2 rows3, rS (hdS rows3 3)) := m2
  have k3 : tkS s (rS (wdS rows3 0)) 16 = rS (wdS rows3 1) := k3
  have g3 : tkS s (rS (wdS rows3 1)) 16 = rS (wdS rows3 2) := g3
  have mm' : longR s (0, 0) = some ((rows3.length : Int), rS (hdS rows3 0)) := mm
  unfold decH
  rw [mm']
  show (if 2048 < ((rows3.length : Nat) : Int) then none else rL s ((rows3.length : Nat) : Int).toNat 3 0 (0, 0, 0) (rS (hdS rows3 0))) = some rows3
  rw [if_neg (by omega), Int.toNat_natCast, mL_yes m0, mL_yes m1, mL_yes m2]
  show rW s rows3.length 3 0 _ _ (rS (wdS rows3 0)) = _
  rw [mW_yes k1 k2 k3, mW_yes (show tkE s (rS (wdS rows3 1)) 16 = 0 from g1) g2 g3, mW_yes (show tkE s (rS (wdS rows3 2)) 16 = 0 from f1) f2 f3]
  obtain ⟨A, hA⟩ : ∃ A : H3, A = (lst 0 rows3, lst 1 rows3, lst 2 rows3) := ⟨_, rfl⟩
  obtain ⟨W, hW⟩ : ∃ W : H3, W = (((wdt 0 rows3 : Nat) : Int), ((wdt 1 rows3 : Nat) : Int), ((wdt 2 rows3 : Nat) : Int)) := ⟨_, rfl⟩
  have q0 : clm 0 A = lst 0 rows3 ∧ clm 1 A = lst 1 rows3 ∧ clm 2 A = lst 2 rows3 := by rw [hA]; exact ⟨rfl, rfl, rfl⟩
  have q1 : clm 0 W = ((wdt 0 rows3 : Nat) : Int) ∧ clm 1 W = ((wdt 1 rows3 : Nat) : Int) ∧ clm 2 W = ((wdt 2 rows3 : Nat) : Int) := by rw [hW]; exact ⟨rfl, rfl, rfl⟩
  rw [← q0.1, ← q1.1] at a1
  rw [← q0.2.1, ← q1.2.1] at b1
  rw [← q0.2.2, ← q1.2.2] at c1
  have fin : rC s rows3.length 3 0 A W (List.replicate rows3.length (0, 0, 0)) (rS (colsS rows3 (wdtS rows3) 0)) = some rows3 := by
    rw [mC_yes a1 a2, mC_yes b1 b2, mC_yes c1 c2]
    rfl
  rw [hA, hW] at fin
  exact fin

/-! ### What Read answers. -/
def readE (s : ByteArray) : Int := match decH s with
  | none => 32
  | some l => if textE l = 0 then (if textB l = s.data.toList then 0 else 32) else 32
def readL (s : ByteArray) : List H3 := if readE s = 0 then (decH s).getD [] else []
theorem textE_zero {l : List H3} (h : textE l = 0) : l ≠ [] ∧ l.length ≤ 2048 ∧ allOk l := by
  unfold textE at h
  by_cases h0 : l = []
  · rw [if_pos h0] at h; exact absurd h (by decide)
  · rw [if_neg h0] at h
    by_cases h1 : 2048 < l.length
    · rw [if_pos h1] at h; exact absurd h (by decide)
    · rw [if_neg h1] at h
      by_cases h2 : l.all okH = true
      · exact ⟨h0, by omega, fun x hx => List.all_eq_true.1 h2 x hx⟩
      · rw [if_neg h2] at h; exact absurd h (by decide)
theorem textB_zero {l : List H3} (h : textE l = 0) : textB l = textS l := by unfold textB; rw [if_pos h]
theorem readE_in (s : ByteArray) : readE s = 0 ∨ readE s = 32 := by
  unfold readE
  split
  · exact Or.inr rfl
  · split
    · split
      · exact Or.inl rfl
      · exact Or.inr rfl
    · exact Or.inr rfl
theorem readL_no {s : ByteArray} (h : readE s ≠ 0) : readL s = [] := by unfold readL; rw [if_neg h]
/-- A string that Read accepts is the text of its result. -/
theorem read_text {s : ByteArray} (h : readE s = 0) : decH s = some (readL s) ∧ textE (readL s) = 0 ∧ textB (readL s) = s.data.toList := by
  unfold readL
  rw [if_pos h]
  unfold readE at h
  split at h
  · exact absurd h (by decide)
  · rename_i l hl
    rw [hl]
    show _ ∧ textE l = 0 ∧ textB l = _
    by_cases h1 : textE l = 0
    · rw [if_pos h1] at h
      by_cases h2 : textB l = s.data.toList
      · exact ⟨rfl, h1, h2⟩
      · rw [if_neg h2] at h; exact absurd h (by decide)
    · rw [if_neg h1] at h; exact absurd h (by decide)
theorem dec_front {s : ByteArray} {l : List H3} {rest : List UInt8} (h : textE l = 0) (hs : s.data.toList = textB l ++ rest) : decH s = some l := by
  obtain ⟨h0, h1, h2⟩ := textE_zero h
  exact dec_text h2 h0 h1 (by rw [hs, textB_zero h])
theorem read_back {s : ByteArray} {l : List H3} (h : textE l = 0) (hs : s.data.toList = textB l) : readE s = 0 ∧ readL s = l := by
  have hd := dec_front (rest := []) h (by rw [hs, List.append_nil])
  have he : readE s = 0 := by
    unfold readE
    rw [hd]
    show (if textE l = 0 then _ else _) = _
    rw [if_pos h, if_pos hs.symm]
  refine ⟨he, ?_⟩
  unfold readL
  rw [if_pos he, hd]
  rfl
theorem read_more {s : ByteArray} {l : List H3} {rest : List UInt8} (h : textE l = 0) (hs : s.data.toList = textB l ++ rest) (hr : rest ≠ []) : readE s = 32 := by
  rcases readE_in s with e | e
  · obtain ⟨h1, h2, h3⟩ := read_text e
    rw [dec_front h hs] at h1
    injection h1 with h1
    rw [← h1] at h3
    rw [hs] at h3
    have := congrArg List.length h3
    rw [List.length_append] at this
    have := List.length_pos_iff.2 hr
    omega
  · exact e
theorem read_less {s : ByteArray} {l : List H3} {rest : List UInt8} (h : textE l = 0) (hs : textB l = s.data.toList ++ rest) (hr : rest ≠ []) : readE s = 32 := by
  rcases readE_in s with e | e
  · obtain ⟨h1, h2, h3⟩ := read_text e
    obtain ⟨T, hT⟩ : ∃ T : ByteArray, T.data.toList = textB l := ⟨⟨(textB l).toArray⟩, rfl⟩
    have d1 := dec_front (s := T) (rest := []) h (by rw [hT, List.append_nil])
    have d2 := dec_front (s := T) (rest := rest) h2 (by rw [hT, hs, h3])
    rw [d1] at d2
    injection d2 with d2
    rw [← d2] at h3
    rw [h3] at hs
    have := congrArg List.length hs
    rw [List.length_append] at this
    have := List.length_pos_iff.2 hr
    omega
  · exact e
end Go.Proofs.Ytkcnhdponcbjaaa
