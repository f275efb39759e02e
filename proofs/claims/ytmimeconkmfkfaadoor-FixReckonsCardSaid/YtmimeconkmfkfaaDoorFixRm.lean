/-
  Plain mathematics of fix.Read: where the point stands, the value of the digits, the rounding of what is behind. No program in this text.
-/
import Derived.Test.YtmimeconkmfkfaaDoorFixTm
import Derived.Lib.IndexBytes
import Derived.Lib.IndexMore
namespace Go.Proofs.YtmimeconkmfkfaaDoor
open Go.RowKit Fix

/-- What stands ahead of the first point, what stands behind it, and whether there is one. -/
def splitP : List UInt8 → List UInt8 × List UInt8 × Bool
  | [] => ([], [], false)
  | c :: l => if c = 46 then ([], l, true) else (c :: (splitP l).1, (splitP l).2.1, (splitP l).2.2)
theorem splitP_cons (c : UInt8) (l : List UInt8) : splitP (c :: l) = if c = 46 then ([], l, true) else (c :: (splitP l).1, (splitP l).2.1, (splitP l).2.2) := rfl
theorem cut_split (l : List UInt8) : Lib.cut l [46] = splitP l := by
  induction l with
  | nil => rfl
  | cons c l ih =>
    unfold Lib.cut at ih ⊢
    rw [Lib.index_one] at ih ⊢
    have hge := Lib.indexByte_ge l 46
    rw [splitP_cons]
    by_cases hc : c = 46
    · subst hc; simp [Lib.indexByte]
    · have hc' : (c == 46) = false := by simpa using hc
      have e : Lib.indexByte (c :: l) 46 = if Lib.indexByte l 46 == -1 then -1 else Lib.indexByte l 46 + 1 := by rw [Lib.indexByte, hc']; rfl
      rw [if_neg hc, e]
      by_cases h0 : Lib.indexByte l 46 = -1
      · rw [h0] at ih ⊢
        rw [← ih]
        simp
      · have h0' : (Lib.indexByte l 46 == -1) = false := by simpa using h0
        have e2 : (if (Lib.indexByte l 46 == -1) = true then (-1 : Int) else Lib.indexByte l 46 + 1) = Lib.indexByte l 46 + 1 := by rw [h0']; rfl
        rw [e2, if_pos (by omega)]
        rw [if_pos (by omega)] at ih
        rw [← ih, show (Lib.indexByte l 46 + 1).toNat = (Lib.indexByte l 46).toNat + 1 by omega]
        simp
theorem split_append (l m : List UInt8) : splitP (l ++ m) = if (splitP l).2.2 = true then ((splitP l).1, (splitP l).2.1 ++ m, true) else (l ++ (splitP m).1, (splitP m).2.1, (splitP m).2.2) := by
  induction l with
  | nil => rfl
  | cons c l ih =>
    rw [List.cons_append, splitP_cons, splitP_cons, ih]
    by_cases hc : c = 46
    · rw [if_pos hc, if_pos hc]; rfl
    · rw [if_neg hc, if_neg hc]
      by_cases hf : (splitP l).2.2 = true
      · simp [hf]
      · simp [hf]
theorem split_free {l : List UInt8} (h : ¬ (splitP l).2.2 = true) : (splitP l).1 = l ∧ (splitP l).2.1 = [] := by
  induction l with
  | nil => exact ⟨rfl, rfl⟩
  | cons c l ih =>
    rw [splitP_cons] at h ⊢
    by_cases hc : c = 46
    · rw [if_pos hc] at h; exact absurd rfl h
    · rw [if_neg hc] at h ⊢
      obtain ⟨h1, h2⟩ := ih h
      exact ⟨by rw [h1], h2⟩

def bodyL (l : List UInt8) : List UInt8 := match l with | [] => [] | c :: t => if c = 45 then t else if c = 43 then t else c :: t
def minusL (l : List UInt8) : Bool := match l with | [] => false | c :: _ => c == 45
def befL (l : List UInt8) : List UInt8 := (splitP (bodyL l)).1
def aftL (l : List UInt8) : List UInt8 := (splitP (bodyL l)).2.1
def goodR (l : List UInt8) : Bool := decide (l.length ≤ 40) && ((befL l).all isDig && ((aftL l).all isDig && !(befL l ++ aftL l).isEmpty))
def zeros4 : List UInt8 := [48, 48, 48, 48]
def headL (l : List UInt8) : List UInt8 := befL l ++ (aftL l ++ zeros4).take 4
def restL (l : List UInt8) : List UInt8 := (aftL l ++ zeros4).drop 4
def upL (l : List UInt8) : Bool := if minusL l then upMinus (restL l) else upPlus (restL l)
def readX (l : List UInt8) : Int := if minusL l then -(if upL l then valL 0 (headL l) + 1 else valL 0 (headL l)) else (if upL l then valL 0 (headL l) + 1 else valL 0 (headL l))
def readBig (l : List UInt8) : Bool := decide (1073741824 < valL 0 (headL l)) || !inRange (readX l)
def readN (l : List UInt8) : Int := if goodR l then (if readBig l then 0 else readX l) else 0
def readE (l : List UInt8) : Int := if goodR l then (if readBig l then 2 else 0) else 3

/-- The value as the reference caps it. -/
def valM (n : Int) : List UInt8 → Int
  | [] => n
  | b :: l => valM (min (10 * n + ((b.toNat : Int) - 48)) 1099511627776) l
theorem valM_snoc (n : Int) (l : List UInt8) (b : UInt8) : valM n (l ++ [b]) = min (10 * valM n l + ((b.toNat : Int) - 48)) 1099511627776 := by
  induction l generalizing n with
  | nil => rfl
  | cons c l ih => exact ih _
theorem valM_eq (n : Int) (l : List UInt8) (hn : 0 ≤ n) (h : l.all isDig = true) : valM (min n 1099511627776) l = min (valL n l) 1099511627776 := by
  induction l generalizing n with
  | nil => rfl
  | cons b l ih =>
    rw [List.all_cons, Bool.and_eq_true] at h
    have hb := isDig_yes h.1
    show valM (min (10 * min n 1099511627776 + ((b.toNat : Int) - 48)) 1099511627776) l = min (valL (10 * n + ((b.toNat : Int) - 48)) l) 1099511627776
    rw [← ih (10 * n + ((b.toNat : Int) - 48)) (by omega) h.2]
    congr 1
    omega

/-- Whether the reference rounds up: the first of the decimals behind, and, below zero, whether there are others. -/
def fiveUp : List UInt8 → Bool
  | [] => false
  | c :: _ => decide (53 ≤ c.toNat)
def someUp : List UInt8 → Bool
  | [] => false
  | c :: l => decide (53 < c.toNat) || l.any fun b => decide (48 < b.toNat)
def moreR (rest : List UInt8) (minus : Bool) : Bool := fiveUp rest && (!minus || someUp rest)

theorem less_nil (l : List UInt8) : Op.bytesLess [] (53 :: l) = true := rfl
theorem less_cons (c : UInt8) (l : List UInt8) : Op.bytesLess (c :: l) [53] = decide (c.toNat < 53) := by
  show (decide (c < 53) || (c == 53 && Op.bytesLess l [])) = _
  have e : Op.bytesLess l [] = false := by cases l <;> rfl
  rw [e, Bool.and_false, Bool.or_false]
  rfl
theorem up_plus_eq (l : List UInt8) : upPlus l = fiveUp l := by
  unfold upPlus
  cases l with
  | nil => rfl
  | cons c l =>
    rw [less_cons]
    show (!decide (c.toNat < 53)) = decide (53 ≤ c.toNat)
    by_cases h : c.toNat < 53
    · rw [decide_eq_true h, decide_eq_false (by omega)]; rfl
    · rw [decide_eq_false h, decide_eq_true (by omega)]; rfl
theorem trim_cons (c : UInt8) (l : List UInt8) : Lib.trimRightB (c :: l) 48 = if Lib.trimRightB l 48 = [] then (if c = 48 then [] else [c]) else c :: Lib.trimRightB l 48 := by
  unfold Lib.trimRightB
  rw [List.reverse_cons, List.dropWhile_append]
  by_cases h : l.reverse.dropWhile (· == 48) = []
  · rw [h]
    by_cases hc : c = 48
    · simp [hc]
    · simp [hc]
  · have h' : (l.reverse.dropWhile (· == 48)).isEmpty = false := by simpa using h
    rw [h']
    simp [h]
theorem trim_nil_iff (l : List UInt8) (h : l.all isDig = true) : Lib.trimRightB l 48 = [] ↔ (l.any fun b => decide (48 < b.toNat)) = false := by
  induction l with
  | nil => exact ⟨fun _ => rfl, fun _ => rfl⟩
  | cons c l ih =>
    rw [List.all_cons, Bool.and_eq_true] at h
    have hc := isDig_yes h.1
    rw [trim_cons, List.any_cons, Bool.or_eq_false_iff, ← ih h.2]
    have hcc : c = 48 ↔ decide (48 < c.toNat) = false := by
      rw [decide_eq_false_iff_not]
      constructor
      · rintro rfl; decide
      · intro hh; exact UInt8.toNat_inj.1 (show c.toNat = 48 by omega)
    by_cases h0 : Lib.trimRightB l 48 = []
    · rw [if_pos h0]
      by_cases h1 : c = 48
      · rw [if_pos h1]; exact ⟨fun _ => ⟨hcc.1 h1, h0⟩, fun _ => rfl⟩
      · rw [if_neg h1]; exact ⟨fun h => by simp at h, fun h => absurd (hcc.2 h.1) h1⟩
    · rw [if_neg h0]
      exact ⟨fun h => by simp at h, fun h => absurd h.2 h0⟩
theorem up_minus_eq (l : List UInt8) (h : l.all isDig = true) : upMinus l = (fiveUp l && someUp l) := by
  unfold upMinus
  cases l with
  | nil => rfl
  | cons c l =>
    rw [List.all_cons, Bool.and_eq_true] at h
    have hc := isDig_yes h.1
    have ht := trim_nil_iff l h.2
    rw [trim_cons]
    by_cases h0 : Lib.trimRightB l 48 = []
    · rw [if_pos h0]
      have ha := ht.1 h0
      by_cases h1 : c = 48
      · subst h1; rfl
      · rw [if_neg h1, less_cons]
        show (!decide (c.toNat < 53) && !(c == 53 && true)) = (decide (53 ≤ c.toNat) && (decide (53 < c.toNat) || _))
        rw [ha, Bool.or_false, Bool.and_true]
        by_cases h2 : c = 53
        · subst h2; rfl
        · have : c.toNat ≠ 53 := fun hh => h2 (UInt8.toNat_inj.1 hh)
          have h2' : (c == 53) = false := by simpa using h2
          rw [h2']
          by_cases h3 : c.toNat < 53
          · simp [h3]; omega
          · simp [h3]; omega
    · rw [if_neg h0, less_cons]
      have ha : (l.any fun b => decide (48 < b.toNat)) = true := by
        by_cases hh : (l.any fun b => decide (48 < b.toNat)) = true
        · exact hh
        · exact absurd (ht.2 (Bool.eq_false_iff.2 hh)) h0
      have hne : (c :: Lib.trimRightB l 48 == [53]) = false := by
        cases hq : Lib.trimRightB l 48 with
        | nil => exact absurd hq h0
        | cons d t =>
          show (c == 53 && (d :: t == [])) = false
          rw [Bool.and_eq_false_iff]; right; rfl
      rw [hne]
      show (!decide (c.toNat < 53) && !false) = (decide (53 ≤ c.toNat) && (decide (53 < c.toNat) || _))
      rw [ha]
      by_cases h3 : c.toNat < 53
      · simp [h3]
      · simp [h3]; omega

/-- The zeros that the program puts behind change no rounding. -/
theorem five_zeros (l : List UInt8) : fiveUp ((l ++ zeros4).drop 4) = fiveUp (l.drop 4) := by
  rcases l with _ | ⟨a, _ | ⟨b, _ | ⟨c, _ | ⟨d, _ | ⟨e, l⟩⟩⟩⟩⟩ <;> rfl
theorem some_zeros (l : List UInt8) : someUp ((l ++ zeros4).drop 4) = someUp (l.drop 4) := by
  rcases l with _ | ⟨a, _ | ⟨b, _ | ⟨c, _ | ⟨d, _ | ⟨e, l⟩⟩⟩⟩⟩
  · rfl
  · rfl
  · rfl
  · rfl
  · rfl
  · show (decide (53 < e.toNat) || (l ++ zeros4).any fun b => decide (48 < b.toNat)) = (decide (53 < e.toNat) || l.any fun b => decide (48 < b.toNat))
    rw [List.any_append, show (zeros4.any fun b => decide (48 < b.toNat)) = false from rfl, Bool.or_false]
theorem zeros_dig : zeros4.all isDig = true := by decide
theorem all_drop {l : List UInt8} (k : Nat) (h : l.all isDig = true) : (l.drop k).all isDig = true := by
  rw [List.all_eq_true] at h ⊢
  exact fun x hx => h x (List.mem_of_mem_drop hx)
theorem all_take {l : List UInt8} (k : Nat) (h : l.all isDig = true) : (l.take k).all isDig = true := by
  rw [List.all_eq_true] at h ⊢
  exact fun x hx => h x (List.mem_of_mem_take hx)
theorem goodR_parts {l : List UInt8} (h : goodR l = true) : l.length ≤ 40 ∧ (befL l).all isDig = true ∧ (aftL l).all isDig = true ∧ (befL l ++ aftL l).isEmpty = false := by
  unfold goodR at h
  simpa only [Bool.and_eq_true, decide_eq_true_eq, Bool.not_eq_true'] using h
theorem rest_dig {l : List UInt8} (h : goodR l = true) : (restL l).all isDig = true := all_drop 4 (by rw [List.all_append, (goodR_parts h).2.2.1, zeros_dig]; rfl)
theorem head_dig {l : List UInt8} (h : goodR l = true) : (headL l).all isDig = true := by
  unfold headL
  rw [List.all_append, (goodR_parts h).2.1, all_take 4 (by rw [List.all_append, (goodR_parts h).2.2.1, zeros_dig]; rfl)]; rfl
theorem up_eq {l : List UInt8} (h : goodR l = true) : upL l = moreR ((aftL l).drop 4) (minusL l) := by
  unfold upL moreR
  have hr := rest_dig h
  unfold restL at hr ⊢
  by_cases hm : minusL l = true
  · rw [if_pos hm, hm, up_minus_eq _ hr, five_zeros, some_zeros]; rfl
  · rw [if_neg hm, Bool.eq_false_iff.2 hm, up_plus_eq, five_zeros]; simp
/-- The reference's number. -/
def refX (l : List UInt8) : Int := if minusL l then -(if upL l then valM 0 (headL l) + 1 else valM 0 (headL l)) else (if upL l then valM 0 (headL l) + 1 else valM 0 (headL l))
theorem ref_range {l : List UInt8} (h : goodR l = true) : inRange (refX l) = !readBig l ∧ (readBig l = false → refX l = readX l) := by
  have hv := valM_eq 0 (headL l) (by decide) (head_dig h)
  rw [show min (0 : Int) 1099511627776 = 0 from rfl] at hv
  have h0 := valL_ge 0 (headL l) (by decide) (head_dig h)
  by_cases hb : 1073741824 < valL 0 (headL l)
  · have e : readBig l = true := by unfold readBig; rw [decide_eq_true hb]; rfl
    rw [e]
    refine ⟨?_, fun hh => by cases hh⟩
    unfold refX inRange
    rw [hv]
    generalize valL 0 (headL l) = v at *
    cases minusL l <;> cases upL l <;> simp <;> omega
  · have e : valM 0 (headL l) = valL 0 (headL l) := by omega
    have e2 : refX l = readX l := by unfold refX readX; rw [e]
    refine ⟨?_, fun _ => e2⟩
    rw [e2]
    unfold readBig
    rw [decide_eq_false hb, Bool.false_or, Bool.not_not]
end Go.Proofs.YtmimeconkmfkfaaDoor
