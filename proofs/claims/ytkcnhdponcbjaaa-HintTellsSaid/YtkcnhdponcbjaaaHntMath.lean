/-
  Plain mathematics of the layer hint: hints as three numbers, the columns' bounds and widths, the bits of a number. No program in this text.
-/
import Derived.Test.YtkcnhdponcbjaaaBitWm
namespace Go.Proofs.Ytkcnhdponcbjaaa.Hnt
open Bt

/-- A hint: Objects, Bytes, At. -/
abbrev H3 := Int × Int × Int
def clm (c : Nat) (h : H3) : Int := match c with | 0 => h.1 | 1 => h.2.1 | _ => h.2.2
def mostC (c : Nat) : Int := match c with | 0 => 8191 | _ => 1048576
def okH (h : H3) : Bool := decide (0 ≤ h.1 ∧ h.1 ≤ 8191) && decide (0 ≤ h.2.1 ∧ h.2.1 ≤ 1048576) && decide (0 ≤ h.2.2 ∧ h.2.2 ≤ 1048576)
theorem okH_iff (h : H3) : okH h = true ↔ ∀ c, c < 3 → 0 ≤ clm c h ∧ clm c h ≤ mostC c := by
  unfold okH
  simp only [Bool.and_eq_true, decide_eq_true_eq]
  constructor
  · rintro ⟨⟨h0, h1⟩, h2⟩ c hc
    match c, hc with
    | 0, _ => exact h0
    | 1, _ => exact h1
    | 2, _ => exact h2
  · intro h
    exact ⟨⟨h 0 (by omega), h 1 (by omega)⟩, h 2 (by omega)⟩
/-- The number of a number's bits. -/
def lenB (n : Nat) : Nat := if n = 0 then 0 else Nat.log2 n + 1
theorem lenB_zero : lenB 0 = 0 := rfl
theorem lenB_lt (n : Nat) : n < 2 ^ lenB n := by
  unfold lenB
  by_cases h : n = 0
  · subst h; decide
  · rw [if_neg h]
    exact Nat.lt_log2_self
theorem lenB_le {n k : Nat} (h : n < 2 ^ k) : lenB n ≤ k := by
  unfold lenB
  by_cases h0 : n = 0
  · rw [if_pos h0]; omega
  · rw [if_neg h0]
    have := (Nat.log2_lt h0).2 h
    omega
theorem lenB_ge {n k : Nat} (h : 2 ^ k ≤ n) : k + 1 ≤ lenB n := by
  unfold lenB
  have h0 : n ≠ 0 := by
    have := Nat.two_pow_pos k
    omega
  rw [if_neg h0]
  have := (Nat.le_log2 h0).2 h
  omega
theorem lenB_eq {n k : Nat} (h1 : 2 ^ k ≤ n) (h2 : n < 2 ^ (k + 1)) : lenB n = k + 1 := by
  have := lenB_ge h1
  have := lenB_le h2
  omega
theorem lenB_shift {n k : Nat} (h : 2 ^ k ≤ n) : lenB n = k + lenB (n / 2 ^ k) := by
  have h0 : 0 < n / 2 ^ k := Nat.div_pos h (Nat.two_pow_pos k)
  have h1 : 2 ^ Nat.log2 (n / 2 ^ k) ≤ n / 2 ^ k := Nat.log2_self_le (by omega)
  have h2 : n / 2 ^ k < 2 ^ (Nat.log2 (n / 2 ^ k) + 1) := Nat.lt_log2_self
  have h3 : lenB (n / 2 ^ k) = Nat.log2 (n / 2 ^ k) + 1 := by unfold lenB; rw [if_neg (by omega)]
  rw [h3]
  generalize Nat.log2 (n / 2 ^ k) = m at h1 h2
  have h4 : 2 ^ (k + m) ≤ n := by
    rw [Nat.pow_add]
    calc 2 ^ k * 2 ^ m ≤ 2 ^ k * (n / 2 ^ k) := Nat.mul_le_mul_left _ h1
      _ ≤ n := Nat.mul_div_le n (2 ^ k)
  have h5 : n < 2 ^ (k + m + 1) := by
    have : n < 2 ^ (m + 1) * 2 ^ k := (Nat.div_lt_iff_lt_mul (Nat.two_pow_pos k)).1 h2
    rw [← Nat.pow_add] at this
    rwa [show k + m + 1 = m + 1 + k by omega]
  rw [lenB_eq h4 h5]
  omega
def needN (n : Int) : Nat := lenB n.toNat
theorem needN_le {n : Int} (h : n ≤ 1048576) : needN n ≤ 21 := lenB_le (by have : (2 : Nat) ^ 21 = 2097152 := rfl; omega)
theorem needN_lt {n : Int} (h : 0 ≤ n) : n < 2 ^ needN n := by
  have := lenB_lt n.toNat
  unfold needN
  have h2 : ((2 : Int) ^ lenB n.toNat) = ((2 ^ lenB n.toNat : Nat) : Int) := by push_cast; rfl
  rw [h2]
  omega
theorem needN_mono {a b : Int} (h : a ≤ b) : needN a ≤ needN b := by
  unfold needN
  by_cases h0 : b.toNat = 0
  · rw [show a.toNat = 0 by omega, h0]; exact Nat.le_refl _
  · have h1 := lenB_lt b.toNat
    exact lenB_le (by omega)
/-- The table of the numbers' bits. -/
def tab8 : List UInt8 := (List.range 256).map fun n => UInt8.ofNat (lenB n)

/-! ### The bounds of a column. -/
def leastC (c : Nat) (l : List H3) (x : Int) : Int := l.foldl (fun m h => min m (clm c h)) x
def mostCs (c : Nat) (l : List H3) (x : Int) : Int := l.foldl (fun m h => max m (clm c h)) x
def lst (c : Nat) (l : List H3) : Int := match l with | [] => 0 | h :: _ => leastC c l (clm c h)
def mst (c : Nat) (l : List H3) : Int := match l with | [] => 0 | h :: _ => mostCs c l (clm c h)
def wdt (c : Nat) (l : List H3) : Nat := needN (mst c l - lst c l)
theorem leastC_le (c : Nat) : ∀ (l : List H3) (x : Int), leastC c l x ≤ x ∧ ∀ h ∈ l, leastC c l x ≤ clm c h
  | [], x => ⟨Int.le_refl _, fun h hh => absurd hh List.not_mem_nil⟩
  | a :: l, x => by
    obtain ⟨h1, h2⟩ := leastC_le c l (min x (clm c a))
    refine ⟨by show leastC c l (min x (clm c a)) ≤ x; omega, fun h hh => ?_⟩
    show leastC c l (min x (clm c a)) ≤ clm c h
    rcases List.mem_cons.1 hh with rfl | hh
    · omega
    · exact h2 h hh
theorem mostCs_ge (c : Nat) : ∀ (l : List H3) (x : Int), x ≤ mostCs c l x ∧ ∀ h ∈ l, clm c h ≤ mostCs c l x
  | [], x => ⟨Int.le_refl _, fun h hh => absurd hh List.not_mem_nil⟩
  | a :: l, x => by
    obtain ⟨h1, h2⟩ := mostCs_ge c l (max x (clm c a))
    refine ⟨by show x ≤ mostCs c l (max x (clm c a)); omega, fun h hh => ?_⟩
    show clm c h ≤ mostCs c l (max x (clm c a))
    rcases List.mem_cons.1 hh with rfl | hh
    · omega
    · exact h2 h hh
theorem leastC_in (c : Nat) (a b : Int) : ∀ (l : List H3) (x : Int), a ≤ x → x ≤ b → (∀ h ∈ l, a ≤ clm c h ∧ clm c h ≤ b) → a ≤ leastC c l x ∧ leastC c l x ≤ b
  | [], x, h1, h2, _ => ⟨h1, h2⟩
  | h :: l, x, h1, h2, h3 => by
    have := h3 h List.mem_cons_self
    exact leastC_in c a b l (min x (clm c h)) (by omega) (by omega) fun k hk => h3 k (List.mem_cons_of_mem _ hk)
theorem mostCs_in (c : Nat) (a b : Int) : ∀ (l : List H3) (x : Int), a ≤ x → x ≤ b → (∀ h ∈ l, a ≤ clm c h ∧ clm c h ≤ b) → a ≤ mostCs c l x ∧ mostCs c l x ≤ b
  | [], x, h1, h2, _ => ⟨h1, h2⟩
  | h :: l, x, h1, h2, h3 => by
    have := h3 h List.mem_cons_self
    exact mostCs_in c a b l (max x (clm c h)) (by omega) (by omega) fun k hk => h3 k (List.mem_cons_of_mem _ hk)
/-- All hints are valid. -/
def allOk (l : List H3) : Prop := ∀ h ∈ l, okH h = true
theorem lst_in {l : List H3} (h : allOk l) (hl : l ≠ []) {c : Nat} (hc : c < 3) : 0 ≤ lst c l ∧ lst c l ≤ 1048576 := by
  match l, hl with
  | a :: l, _ =>
    have hb : ∀ h ∈ a :: l, 0 ≤ clm c h ∧ clm c h ≤ 1048576 := fun k hk => by
      have := (okH_iff k).1 (h k hk) c hc
      have h2 : mostC c ≤ 1048576 := by unfold mostC; split <;> omega
      omega
    exact leastC_in c 0 1048576 (a :: l) _ (hb a List.mem_cons_self).1 (hb a List.mem_cons_self).2 hb
theorem mst_in {l : List H3} (h : allOk l) (hl : l ≠ []) {c : Nat} (hc : c < 3) : 0 ≤ mst c l ∧ mst c l ≤ 1048576 := by
  match l, hl with
  | a :: l, _ =>
    have hb : ∀ h ∈ a :: l, 0 ≤ clm c h ∧ clm c h ≤ 1048576 := fun k hk => by
      have := (okH_iff k).1 (h k hk) c hc
      have h2 : mostC c ≤ 1048576 := by unfold mostC; split <;> omega
      omega
    exact mostCs_in c 0 1048576 (a :: l) _ (hb a List.mem_cons_self).1 (hb a List.mem_cons_self).2 hb
theorem lst_le {l : List H3} {h : H3} (hh : h ∈ l) (c : Nat) : lst c l ≤ clm c h ∧ clm c h ≤ mst c l := by
  match l with
  | a :: l => exact ⟨(leastC_le c (a :: l) _).2 h hh, (mostCs_ge c (a :: l) _).2 h hh⟩
theorem wdt_le {l : List H3} (h : allOk l) (hl : l ≠ []) {c : Nat} (hc : c < 3) : wdt c l ≤ 21 := by
  have h1 := lst_in h hl hc
  have h2 := mst_in h hl hc
  exact needN_le (by omega)
theorem diff_in {l : List H3} {h : H3} (hh : h ∈ l) (c : Nat) : 0 ≤ clm c h - lst c l ∧ clm c h - lst c l < 2 ^ wdt c l := by
  have h1 := lst_le hh c
  refine ⟨by omega, ?_⟩
  have h2 : mst c l - lst c l < 2 ^ wdt c l := needN_lt (by omega)
  omega

/-! ### What the writer holds. -/
/-- Bytes, the bits of the last that are taken, and the order. -/
abbrev St := List UInt8 × Nat × Int
def put (st : St) (v n : Int) : St := (wrL st.1 st.2.1 st.2.2 v n 2, wrP st.2.1 st.2.2 v n 2, wrO st.2.2 v n 2)
def aln (st : St) : St := (st.1, 0, 0)
def putLong (st : St) (v : Int) : St := put (put st (v / 65536) 16) (v % 65536) 16
def st0 : St := ([], 0, 0)
def putAll (st : St) : List Int → St := List.foldl putLong st
def headS (l : List H3) : St := putLong (putLong (putLong (putLong st0 (l.length : Int)) (lst 0 l)) (lst 1 l)) (lst 2 l)
def wdtS (l : List H3) : St := put (put (put (headS l) (wdt 0 l : Nat) 16) (wdt 1 l : Nat) 16) (wdt 2 l : Nat) 16
/-- The first k numbers of column c. -/
def colS (c : Nat) (x : Int) (n : Nat) (l : List H3) (st : St) : Nat → St
  | 0 => st
  | k + 1 => put (colS c x n l st k) (clm c (l.getD k (0, 0, 0)) - x) (n : Int)
def colsS (l : List H3) (st : St) : Nat → St
  | 0 => st
  | c + 1 => aln (colS c (lst c l) (wdt c l) l (colsS l st c) l.length)
def textS (l : List H3) : List UInt8 := (colsS l (wdtS l) 3).1
/-- What Text answers. -/
def textE (l : List H3) : Int := if l = [] then 1 else if 2048 < l.length then 6 else if l.all okH then 0 else 2
def textB (l : List H3) : List UInt8 := if textE l = 0 then textS l else []
/-- A state in which the next number can be written. -/
def good (st : St) : Prop := Fit st.2.2 st.1 st.2.1 ∧ (st.2.2 = 0 ∨ st.2.2 = 2)
theorem good0 : good st0 := ⟨fit_zero _ _, Or.inl rfl⟩
theorem good_aln (st : St) : good (aln st) := ⟨fit_zero _ _, Or.inl rfl⟩
theorem wbad_in {o v n : Int} (ho : o = 0 ∨ o = 2) (hv : 0 ≤ v) (hn : 0 ≤ n) (hn2 : n ≤ 24) (h : v < 2 ^ n.toNat) : wbad o v n 2 = false := by
  unfold wbad bad
  rw [decide_eq_false (show ¬ n < 0 by omega), decide_eq_false (show ¬ 24 < n by omega), decide_eq_false (show ¬ v < 0 by omega), decide_eq_false (show ¬ (2 : Int) ^ n.toNat ≤ v by omega)]
  rcases ho with rfl | rfl <;> simp
theorem good_put {st : St} (h : good st) {v n : Int} (hv : 0 ≤ v) (hn : 0 ≤ n) (hn2 : n ≤ 24) (hlt : v < 2 ^ n.toNat) : good (put st v n) := by
  obtain ⟨hf, ho⟩ := h
  refine ⟨wr_fit hf (Or.inr rfl), ?_⟩
  show wrO st.2.2 v n 2 = 0 ∨ wrO st.2.2 v n 2 = 2
  unfold wrO
  rw [if_neg (by rw [wbad_in ho hv hn hn2 hlt]; simp)]
  split
  · exact Or.inr rfl
  · exact ho
theorem put_len (st : St) (v n : Int) : (put st v n).1.length ≤ st.1.length + 24 := wr_le
theorem putLong_len (st : St) (v : Int) : (putLong st v).1.length ≤ st.1.length + 48 := by
  have h1 := put_len st (v / 65536) 16
  have h2 := put_len (put st (v / 65536) 16) (v % 65536) 16
  show (put (put st (v / 65536) 16) (v % 65536) 16).1.length ≤ _
  omega
theorem good_long {st : St} (h : good st) {v : Int} (hv : 0 ≤ v) (hv2 : v ≤ 1048576) : good (putLong st v) := by
  have e : (2 : Int) ^ (16 : Int).toNat = 65536 := rfl
  exact good_put (good_put h (by omega) (by omega) (by omega) (by rw [e]; omega)) (by omega) (by omega) (by omega) (by rw [e]; omega)
end Go.Proofs.Ytkcnhdponcbjaaa.Hnt
