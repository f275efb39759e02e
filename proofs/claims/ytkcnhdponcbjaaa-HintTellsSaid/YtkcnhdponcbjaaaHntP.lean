/-
  Plain mathematics of the layer hint: where the bytes of a text lie: what adding constants to all entries changes, and what one page more adds.
-/
import Derived.Test.YtkcnhdponcbjaaaHntM
namespace Go.Proofs.Ytkcnhdponcbjaaa
open Bt Hnt

theorem grow0_pre (x l : List UInt8) (p : Nat) : grow0 (x ++ l) p = x ++ grow0 l p := by
  unfold grow0; split <;> simp
theorem lastN_pre {x l : List UInt8} (h : l ≠ []) : lastN (x ++ l) = lastN l := by
  have := List.length_pos_iff.2 h
  unfold lastN byt
  rw [List.length_append, List.getD_eq_getElem?_getD, List.getD_eq_getElem?_getD, List.getElem?_append_right (by omega), show x.length + l.length - 1 - x.length = l.length - 1 by omega]
theorem put1_pre {o : Int} {x l : List UInt8} {p b : Nat} (h : 0 < p → l ≠ []) : put1 o (x ++ l) p b = x ++ put1 o l p b := by
  have h1 := grow0_ne l p h
  have h2 := grow0_len l p h
  unfold put1
  rw [grow0_pre, lastN_pre h1, List.length_append, List.set_append_right _ _ (by omega), show x.length + (grow0 l p).length - 1 - x.length = (grow0 l p).length - 1 by omega]
theorem puts_pre {q o : Int} {x l : List UInt8} {p : Nat} {f : Nat → Nat} (hf : Fit q l p) (hq : 0 < p → q = o) (ho : o = 1 ∨ o = 2) (hb : ∀ k, f k < 2) : ∀ k, puts o (x ++ l) p f k = x ++ puts o l p f k
  | 0 => rfl
  | k + 1 => by
    have ih := puts_pre (x := x) hf hq ho hb k
    show put1 o (puts o (x ++ l) p f k) ((p + k) % 8) (f k) = x ++ put1 o (puts o l p f k) ((p + k) % 8) (f k)
    rw [ih]
    exact put1_pre (fit_puts0 hf hq ho hb k).ne_
/-- A state with bytes before it. -/
def preS (x : List UInt8) (st : St) : St := (x ++ st.1, st.2.1, st.2.2)
theorem good_ord {st : St} (hg : good st) : 0 < st.2.1 → st.2.2 = 2 := fun hp => by
  obtain ⟨hf, ho⟩ := hg
  rcases (hf.2 hp).2.1 with e | e <;> omega
theorem put_pre {st : St} (hg : good st) (x : List UInt8) (v n : Int) : put (preS x st) v n = preS x (put st v n) := by
  obtain ⟨l, p, o⟩ := st
  have h1 : wrL (x ++ l) p o v n 2 = x ++ wrL l p o v n 2 := by
    unfold wrL
    split
    · rfl
    · exact puts_pre hg.1 (good_ord hg) (Or.inr rfl) (fun _ => bitO_lt _ _ _ _) _
  show (wrL (x ++ l) p o v n 2, wrP p o v n 2, wrO o v n 2) = (x ++ wrL l p o v n 2, wrP p o v n 2, wrO o v n 2)
  rw [h1]
theorem col_pre {l : List H3} (h : allOk l) (hne : l ≠ []) {c : Nat} (hc : c < 3) {st : St} (hg : good st) (x : List UInt8) : ∀ k, k ≤ l.length → colS c (lst c l) (wdt c l) l (preS x st) k = preS x (colS c (lst c l) (wdt c l) l st k)
  | 0, _ => rfl
  | k + 1, hk => by
    have ih := col_pre h hne hc hg x k (by omega)
    show put (colS c (lst c l) (wdt c l) l (preS x st) k) _ _ = preS x (put (colS c (lst c l) (wdt c l) l st k) _ _)
    rw [ih]
    exact put_pre (good_col h hne hc hg k (by omega)) x _ _
theorem cols_pre {l : List H3} (h : allOk l) (hne : l ≠ []) {st : St} (hg : good st) (x : List UInt8) : ∀ c, c ≤ 3 → colsS l (preS x st) c = preS x (colsS l st c)
  | 0, _ => rfl
  | c + 1, hc => by
    have ih := cols_pre h hne hg x c (by omega)
    show aln (colS c (lst c l) (wdt c l) l (colsS l (preS x st) c) l.length) = preS x (aln (colS c (lst c l) (wdt c l) l (colsS l st c) l.length))
    rw [ih, col_pre h hne (by omega) (good_cols hg c) x _ (Nat.le_refl _)]
    rfl
/-- The bits that are written, counted. -/
theorem put_pos {st : St} (hg : good st) {v n : Int} (hv : 0 ≤ v) (hn : 0 ≤ n) (hn2 : n ≤ 24) (hlt : v < 2 ^ n.toNat) : pos (put st v n).1 (put st v n).2.1 = pos st.1 st.2.1 + n.toNat := by
  have hw := wbad_in hg.2 hv hn hn2 hlt
  obtain ⟨_, e1, e2, _⟩ := wr_ok hw st.1 st.2.1
  show pos (wrL st.1 st.2.1 st.2.2 v n 2) (wrP st.2.1 st.2.2 v n 2) = _
  rw [e1, e2]
  exact pos_puts hg.1 (good_ord hg) (Or.inr rfl) (fun _ => bitO_lt _ _ _ _) _
theorem col_pos {l : List H3} (h : allOk l) (hne : l ≠ []) {c : Nat} (hc : c < 3) {st : St} (hg : good st) : ∀ k, k ≤ l.length → pos (colS c (lst c l) (wdt c l) l st k).1 (colS c (lst c l) (wdt c l) l st k).2.1 = pos st.1 st.2.1 + k * wdt c l
  | 0, _ => by show _ = _ + 0 * _; rw [Nat.zero_mul]; rfl
  | k + 1, hk => by
    have ih := col_pos h hne hc hg k (by omega)
    have h2 := diff_in (List.getElem_mem (show k < l.length by omega)) c
    have h3 := wdt_le h hne hc
    have e := put_pos (good_col h hne hc hg k (by omega)) (v := clm c (l.getD k (0, 0, 0)) - lst c l) (n := (wdt c l : Nat)) (by rw [getD_in (by omega)]; exact h2.1) (by omega) (by omega) (by rw [getD_in (by omega), two_nat]; exact h2.2)
    show pos (put (colS c (lst c l) (wdt c l) l st k) (clm c (l.getD k (0, 0, 0)) - lst c l) (wdt c l : Nat)).1 (put (colS c (lst c l) (wdt c l) l st k) (clm c (l.getD k (0, 0, 0)) - lst c l) (wdt c l : Nat)).2.1 = _
    rw [e, ih, Int.toNat_natCast, Nat.add_mul, Nat.one_mul, Nat.add_assoc]
theorem cols_len8 {l : List H3} (h : allOk l) (hne : l ≠ []) {c : Nat} (hc : c < 3) {st : St} (hg : good st) (hz : (colsS l st c).2.1 = 0) :
    8 * (colsS l st (c + 1)).1.length = 8 * (colsS l st c).1.length + alg (l.length * wdt c l) := by
  have h1 := col_pos h hne hc (good_cols (l := l) hg c) l.length (Nat.le_refl _)
  have h2 := hpos_alg (good_col h hne hc (good_cols (l := l) hg c) l.length (Nat.le_refl _)).1
  rw [h1, hz] at h2
  have h3 : pos (colS c (lst c l) (wdt c l) l (colsS l st c) l.length).1 0 = 8 * (colsS l st (c + 1)).1.length := rfl
  rw [h3] at h2
  have h4 : pos (colsS l st c).1 0 = 8 * (colsS l st c).1.length := rfl
  rw [h4] at h2
  unfold alg at h2 ⊢
  omega
theorem cols_all8 {l : List H3} (h : allOk l) (hne : l ≠ []) {st : St} (hg : good st) (hz : st.2.1 = 0) :
    8 * (colsS l st 3).1.length = 8 * st.1.length + alg (l.length * wdt 0 l) + alg (l.length * wdt 1 l) + alg (l.length * wdt 2 l) := by
  rw [cols_len8 h hne (c := 2) (by omega) hg rfl, cols_len8 h hne (c := 1) (by omega) hg rfl, cols_len8 h hne (c := 0) (by omega) hg hz]
  rfl
/-- A number of 16 bits fills two bytes. -/
theorem put_two {b : List UInt8} {o v : Int} (ho : o = 0 ∨ o = 2) (hv : 0 ≤ v) (hv2 : v < 65536) : ∃ b', put (b, 0, o) v 16 = (b', 0, 2) ∧ b'.length = b.length + 2 := by
  have hg : good (b, 0, o) := ⟨fit_zero _ _, ho⟩
  have hw := wbad_in (n := 16) ho hv (by omega) (by omega) (by rw [two16n]; omega)
  obtain ⟨_, _, e2, e3⟩ := wr_ok hw b 0
  have hp := put_pos hg (v := v) (n := 16) hv (by omega) (by omega) (by rw [two16n]; omega)
  have h1 : (put (b, 0, o) v 16).2.1 = 0 := e2
  have h2 : (put (b, 0, o) v 16).2.2 = 2 := e3
  rw [h1] at hp
  generalize put (b, 0, o) v 16 = st at hp h1 h2
  obtain ⟨b', p', o'⟩ := st
  have h1 : p' = 0 := h1
  have h2 : o' = 2 := h2
  subst h1 h2
  refine ⟨b', rfl, ?_⟩
  have h3 : 8 * b'.length = 8 * b.length + 16 := hp
  omega
theorem long_two {b : List UInt8} {o v : Int} (ho : o = 0 ∨ o = 2) (hv : 0 ≤ v) (hv2 : v ≤ 1048576) : ∃ b', putLong (b, 0, o) v = (b', 0, 2) ∧ b'.length = b.length + 4 := by
  obtain ⟨b1, h1, l1⟩ := put_two (b := b) ho (show 0 ≤ v / 65536 by omega) (by omega)
  obtain ⟨b2, h2, l2⟩ := put_two (b := b1) (Or.inr rfl) (show 0 ≤ v % 65536 by omega) (by omega)
  refine ⟨b2, ?_, by omega⟩
  unfold putLong
  rw [h1, h2]
theorem head_16 {l : List H3} (h : allOk l) (hne : l ≠ []) (hl : l.length ≤ 2048) : ∃ b, headS l = (b, 0, 2) ∧ b.length = 16 := by
  have i0 := lst_in h hne (c := 0) (by omega)
  have i1 := lst_in h hne (c := 1) (by omega)
  have i2 := lst_in h hne (c := 2) (by omega)
  obtain ⟨b0, h0, l0⟩ := long_two (b := []) (Or.inl rfl) (show (0 : Int) ≤ (l.length : Int) by omega) (by omega)
  obtain ⟨b1, h1, l1⟩ := long_two (b := b0) (Or.inr rfl) i0.1 i0.2
  obtain ⟨b2, h2, l2⟩ := long_two (b := b1) (Or.inr rfl) i1.1 i1.2
  obtain ⟨b3, h3, l3⟩ := long_two (b := b2) (Or.inr rfl) i2.1 i2.2
  refine ⟨b3, ?_, by simp at l0; omega⟩
  unfold headS st0
  rw [h0, h1, h2, h3]
theorem put_wd0 : ∀ w, w < 25 → put ([], 0, 2) ((w : Nat) : Int) 16 = ([0, UInt8.ofNat w], 0, 2) := by decide +kernel
theorem put_wd {b : List UInt8} {w : Nat} (hw : w < 25) : put (b, 0, 2) ((w : Nat) : Int) 16 = (b ++ [0, UInt8.ofNat w], 0, 2) := by
  have h := put_pre (st := ([], 0, 2)) ⟨fit_zero _ _, Or.inr rfl⟩ b ((w : Nat) : Int) 16
  have e : preS b ([], 0, 2) = (b, 0, 2) := by unfold preS; simp
  rw [e] at h
  rw [h, put_wd0 w hw]
  rfl
/-- The bytes that hold the widths. -/
def wbytes (l : List H3) : List UInt8 := [0, UInt8.ofNat (wdt 0 l), 0, UInt8.ofNat (wdt 1 l), 0, UInt8.ofNat (wdt 2 l)]
/-- The bytes of the columns. -/
def cbytes (l : List H3) : List UInt8 := (colsS l ([], 0, 2) 3).1
theorem text_parts {l : List H3} (h : allOk l) (hne : l ≠ []) (hl : l.length ≤ 2048) : ∃ b, b.length = 16 ∧ textS l = b ++ (wbytes l ++ cbytes l) := by
  obtain ⟨b, hb, hlen⟩ := head_16 h hne hl
  have u2 := wdt_le h hne (c := 2) (by omega)
  have u1 := wdt_le h hne (c := 1) (by omega)
  have u0 := wdt_le h hne (c := 0) (by omega)
  have hw : wdtS l = (b ++ wbytes l, 0, 2) := by
    unfold wdtS
    rw [hb, put_wd (by omega), put_wd (by omega), put_wd (by omega)]
    unfold wbytes
    simp
  refine ⟨b, hlen, ?_⟩
  have hp := cols_pre h hne (st := ([], 0, 2)) ⟨fit_zero _ _, Or.inr rfl⟩ (b ++ wbytes l) 3 (by omega)
  have e : preS (b ++ wbytes l) ([], 0, 2) = (b ++ wbytes l, 0, 2) := by unfold preS; simp
  rw [e, ← hw] at hp
  unfold textS
  rw [hp]
  show (b ++ wbytes l) ++ cbytes l = _
  rw [List.append_assoc]
theorem cbytes_len {l : List H3} (h : allOk l) (hne : l ≠ []) : 8 * (cbytes l).length = alg (l.length * wdt 0 l) + alg (l.length * wdt 1 l) + alg (l.length * wdt 2 l) := by
  have := cols_all8 h hne (st := ([], 0, 2)) ⟨fit_zero _ _, Or.inr rfl⟩ rfl
  have e : cbytes l = (colsS l ([], 0, 2) 3).1 := rfl
  rw [e, this]
  simp
/-! ### Constants added. -/
def sh (a b c : Int) (h : H3) : H3 := (h.1 + a, h.2.1 + b, h.2.2 + c)
def shc (a b c : Int) (k : Nat) : Int := match k with | 0 => a | 1 => b | _ => c
theorem clm_sh (a b c : Int) (k : Nat) (h : H3) : clm k (sh a b c h) = clm k h + shc a b c k := by
  match k with
  | 0 => rfl
  | 1 => rfl
  | n + 2 => rfl
theorem leastC_sh (a b c : Int) (k : Nat) : ∀ (l : List H3) (x : Int), leastC k (l.map (sh a b c)) (x + shc a b c k) = leastC k l x + shc a b c k
  | [], x => rfl
  | h :: l, x => by
    have ih := leastC_sh a b c k l (min x (clm k h))
    show leastC k (l.map (sh a b c)) (min (x + shc a b c k) (clm k (sh a b c h))) = leastC k l (min x (clm k h)) + _
    rw [clm_sh, ← ih]
    congr 1
    omega
theorem mostCs_sh (a b c : Int) (k : Nat) : ∀ (l : List H3) (x : Int), mostCs k (l.map (sh a b c)) (x + shc a b c k) = mostCs k l x + shc a b c k
  | [], x => rfl
  | h :: l, x => by
    have ih := mostCs_sh a b c k l (max x (clm k h))
    show mostCs k (l.map (sh a b c)) (max (x + shc a b c k) (clm k (sh a b c h))) = mostCs k l (max x (clm k h)) + _
    rw [clm_sh, ← ih]
    congr 1
    omega
theorem lst_sh (a b c : Int) (k : Nat) {l : List H3} (hne : l ≠ []) : lst k (l.map (sh a b c)) = lst k l + shc a b c k := by
  match l, hne with
  | h :: l, _ =>
    show leastC k ((h :: l).map (sh a b c)) (clm k (sh a b c h)) = leastC k (h :: l) (clm k h) + _
    rw [clm_sh]
    exact leastC_sh a b c k (h :: l) _
theorem mst_sh (a b c : Int) (k : Nat) {l : List H3} (hne : l ≠ []) : mst k (l.map (sh a b c)) = mst k l + shc a b c k := by
  match l, hne with
  | h :: l, _ =>
    show mostCs k ((h :: l).map (sh a b c)) (clm k (sh a b c h)) = mostCs k (h :: l) (clm k h) + _
    rw [clm_sh]
    exact mostCs_sh a b c k (h :: l) _
theorem wdt_sh (a b c : Int) (k : Nat) {l : List H3} (hne : l ≠ []) : wdt k (l.map (sh a b c)) = wdt k l := by
  unfold wdt
  rw [lst_sh a b c k hne, mst_sh a b c k hne]
  congr 1
  omega
theorem col_sh (a b c : Int) (k : Nat) (x : Int) (n : Nat) (l : List H3) (st : St) : ∀ m, m ≤ l.length → colS k (x + shc a b c k) n (l.map (sh a b c)) st m = colS k x n l st m
  | 0, _ => rfl
  | m + 1, hm => by
    have ih := col_sh a b c k x n l st m (by omega)
    show put (colS k (x + shc a b c k) n (l.map (sh a b c)) st m) (clm k ((l.map (sh a b c)).getD m (0, 0, 0)) - (x + shc a b c k)) n = put (colS k x n l st m) (clm k (l.getD m (0, 0, 0)) - x) n
    rw [ih, getD_in (by rw [List.length_map]; omega), getD_in (by omega), List.getElem_map, clm_sh]
    congr 1
    omega
theorem cols_sh (a b c : Int) {l : List H3} (hne : l ≠ []) (st : St) : ∀ k, colsS (l.map (sh a b c)) st k = colsS l st k
  | 0 => rfl
  | k + 1 => by
    have ih := cols_sh a b c hne st k
    show aln (colS k (lst k (l.map (sh a b c))) (wdt k (l.map (sh a b c))) (l.map (sh a b c)) (colsS (l.map (sh a b c)) st k) (l.map (sh a b c)).length) = aln (colS k (lst k l) (wdt k l) l (colsS l st k) l.length)
    rw [ih, lst_sh a b c k hne, wdt_sh a b c k hne, List.length_map, col_sh a b c k _ _ l _ _ (Nat.le_refl _)]
/-- Constants added to all entries change the first sixteen bytes alone. -/
theorem text_sh (a b c : Int) {l : List H3} (h : textE l = 0) (h' : textE (l.map (sh a b c)) = 0) : ∃ x y z : List UInt8, x.length = 16 ∧ y.length = 16 ∧ textB l = x ++ z ∧ textB (l.map (sh a b c)) = y ++ z := by
  obtain ⟨h0, h1, h2⟩ := textE_zero h
  obtain ⟨g0, g1, g2⟩ := textE_zero h'
  obtain ⟨x, hx, ex⟩ := text_parts h2 h0 h1
  obtain ⟨y, hy, ey⟩ := text_parts g2 g0 g1
  refine ⟨x, y, wbytes l ++ cbytes l, hx, hy, by rw [textB_zero h, ex], ?_⟩
  rw [textB_zero h', ey]
  congr 1
  unfold wbytes cbytes
  rw [wdt_sh a b c 0 h0, wdt_sh a b c 1 h0, wdt_sh a b c 2 h0, cols_sh a b c h0]
/-! ### One page more. -/
theorem leastC_app (k : Nat) (h : H3) : ∀ (l : List H3) (x : Int), leastC k (l ++ [h]) x = min (leastC k l x) (clm k h) := fun l x => by
  unfold leastC
  rw [List.foldl_append]
  rfl
theorem mostCs_app (k : Nat) (h : H3) : ∀ (l : List H3) (x : Int), mostCs k (l ++ [h]) x = max (mostCs k l x) (clm k h) := fun l x => by
  unfold mostCs
  rw [List.foldl_append]
  rfl
theorem wdt_app (k : Nat) {l : List H3} {h : H3} (hh : h ∈ l) : wdt k (l ++ [h]) = wdt k l := by
  have h1 := lst_le hh k
  match l, hh with
  | g :: l, _ =>
    have e1 : lst k ((g :: l) ++ [h]) = lst k (g :: l) := by
      have : lst k ((g :: l) ++ [h]) = min (lst k (g :: l)) (clm k h) := leastC_app k h (g :: l) (clm k g)
      omega
    have e2 : mst k ((g :: l) ++ [h]) = mst k (g :: l) := by
      have : mst k ((g :: l) ++ [h]) = max (mst k (g :: l)) (clm k h) := mostCs_app k h (g :: l) (clm k g)
      omega
    unfold wdt
    rw [e1, e2]
theorem textE_app {l : List H3} {h : H3} (hh : h ∈ l) (hE : textE l = 0) (hl : l.length ≤ 300) : textE (l ++ [h]) = 0 := by
  obtain ⟨h0, h1, h2⟩ := textE_zero hE
  have hl2 : (l ++ [h]).length = l.length + 1 := by simp
  have hall : (l ++ [h]).all okH = true := List.all_eq_true.2 fun x hx => by
    rcases List.mem_append.1 hx with hx | hx
    · exact h2 x hx
    · rw [List.mem_singleton.1 hx]; exact h2 h hh
  unfold textE
  rw [if_neg (by simp), if_neg (by omega), if_pos hall]
theorem alg_more (n w : Nat) : alg (n * w) ≤ alg ((n + 1) * w) ∧ alg ((n + 1) * w) ≤ alg (n * w) + w + 7 ∧ (w = 0 → alg ((n + 1) * w) = alg (n * w)) := by
  rw [Nat.add_mul, Nat.one_mul]
  refine ⟨?_, ?_, fun h => by rw [h]; rfl⟩
  · unfold alg; omega
  · unfold alg; omega
/-- One page more, like one that is there, adds at most the bits of one row. -/
theorem text_app {l : List H3} {h : H3} (hh : h ∈ l) (hE : textE l = 0) (hl : l.length ≤ 300) :
    ∃ n : Nat, 8 * (textB (l ++ [h])).length = 8 * (textB l).length + n ∧ n ≤ wdt 0 l + wdt 1 l + wdt 2 l + 21 ∧ (wdt 0 l + wdt 1 l + wdt 2 l = 0 → n = 0) := by
  have hE' := textE_app hh hE hl
  obtain ⟨h0, h1, h2⟩ := textE_zero hE
  obtain ⟨g0, g1, g2⟩ := textE_zero hE'
  obtain ⟨x, hx, ex⟩ := text_parts h2 h0 h1
  obtain ⟨y, hy, ey⟩ := text_parts g2 g0 g1
  have cx := cbytes_len h2 h0
  have cy := cbytes_len g2 g0
  rw [wdt_app 0 hh, wdt_app 1 hh, wdt_app 2 hh, show (l ++ [h]).length = l.length + 1 by simp] at cy
  have m0 := alg_more l.length (wdt 0 l)
  have m1 := alg_more l.length (wdt 1 l)
  have m2 := alg_more l.length (wdt 2 l)
  have lx : (textB l).length = 22 + (cbytes l).length := by rw [textB_zero hE, ex]; simp [wbytes, hx]; omega
  have ly : (textB (l ++ [h])).length = 22 + (cbytes (l ++ [h])).length := by rw [textB_zero hE', ey]; simp [wbytes, hy]; omega
  refine ⟨8 * (cbytes (l ++ [h])).length - 8 * (cbytes l).length, ?_, ?_, ?_⟩
  · omega
  · omega
  · intro h
    have z0 := m0.2.2 (by omega)
    have z1 := m1.2.2 (by omega)
    have z2 := m2.2.2 (by omega)
    omega
/-- The widths stand behind the first sixteen bytes. -/
theorem text_wd {l : List H3} (hE : textE l = 0) : ∃ x z : List UInt8, x.length = 16 ∧ textB l = x ++ ([0, UInt8.ofNat (wdt 0 l), 0, UInt8.ofNat (wdt 1 l), 0, UInt8.ofNat (wdt 2 l)] ++ z) ∧ wdt 0 l ≤ 21 ∧ wdt 1 l ≤ 21 ∧ wdt 2 l ≤ 21 := by
  obtain ⟨h0, h1, h2⟩ := textE_zero hE
  obtain ⟨x, hx, ex⟩ := text_parts h2 h0 h1
  exact ⟨x, cbytes l, hx, by rw [textB_zero hE, ex]; rfl, wdt_le h2 h0 (by omega), wdt_le h2 h0 (by omega), wdt_le h2 h0 (by omega)⟩
theorem textB_len {l : List H3} (hE : textE l = 0) : 22 ≤ (textB l).length ∧ (textB l).length ≤ 20000 := by
  obtain ⟨h0, h1, h2⟩ := textE_zero hE
  obtain ⟨x, hx, ex⟩ := text_parts h2 h0 h1
  have cx := cbytes_len h2 h0
  have lx : (textB l).length = 22 + (cbytes l).length := by rw [textB_zero hE, ex]; simp [wbytes, hx]; omega
  have each : ∀ c, c < 3 → alg (l.length * wdt c l) ≤ 43016 := fun c hc => by
    have : l.length * wdt c l ≤ 2048 * 21 := Nat.mul_le_mul h1 (wdt_le h2 h0 hc)
    unfold alg
    omega
  have e0 := each 0 (by omega)
  have e1 := each 1 (by omega)
  have e2 := each 2 (by omega)
  omega
end Go.Proofs.Ytkcnhdponcbjaaa
