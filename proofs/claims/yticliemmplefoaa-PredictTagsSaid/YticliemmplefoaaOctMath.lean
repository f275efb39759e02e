/-
  Plain mathematics of the layer octet: what each of its functions computes, as functions on lists of bytes, and the plain laws that its statements ask. No program in this text.
-/
import Derived.Lib.IndexMore
namespace Go.Proofs.Yticliemmplefoaa.Oct
open Go.Lib

/-- Is c one of the bytes of l? -/
def memS (c : UInt8) (l : List UInt8) : Bool := l.contains c
def whiteS (c : UInt8) : Bool := c == 0 || c == 9 || c == 10 || c == 12 || c == 13 || c == 32
def delimS (c : UInt8) : Bool := c == 40 || c == 41 || c == 60 || c == 62 || c == 91 || c == 93 || c == 123 || c == 125 || c == 47 || c == 37
def regularS (c : UInt8) : Bool := !whiteS c && !delimS c
def digitS (c : UInt8) : Int :=
  if 48 ≤ c.toNat ∧ c.toNat ≤ 57 then (c.toNat : Int) - 48 else if 65 ≤ c.toNat ∧ c.toNat ≤ 70 then (c.toNat : Int) - 55 else if 97 ≤ c.toNat ∧ c.toNat ≤ 102 then (c.toNat : Int) - 87 else -1

/-- The upper-case digit of a number below 16. -/
def hexd (n : Nat) : UInt8 := if n < 10 then UInt8.ofNat (48 + n) else UInt8.ofNat (55 + n)
def hexS : List UInt8 → List UInt8
  | [] => []
  | c :: t => hexd (c.toNat / 16) :: hexd (c.toNat % 16) :: hexS t

/-- Pairs of digits; none where a digit is wrong or one is missing. -/
def unhexS : List UInt8 → Option (List UInt8)
  | [] => some []
  | [_] => none
  | a :: b :: t => if digitS a < 0 ∨ digitS b < 0 then none else (unhexS t).map (UInt8.ofNat (16 * digitS a + digitS b).toNat :: ·)

/-- Does part occur at place at? -/
def beginsS (s part : List UInt8) (a : Int) : Bool := decide (0 ≤ a) && decide (a ≤ s.length) && hasPrefix (s.drop a.toNat) part

def findS (s part : List UInt8) (a : Int) : Int :=
  if part = [] ∨ (s.length : Int) < max a 0 then -1 else
    if index (s.drop (max a 0).toNat) part < 0 then -1 else max a 0 + index (s.drop (max a 0).toNat) part


/-- How many bytes up to behind the first end of line. -/
def lineN : List UInt8 → Nat
  | [] => 0
  | [_] => 1
  | a :: b :: t => if a = 13 ∧ b = 10 then 2 else if a = 10 ∨ a = 13 then 1 else 1 + lineN (b :: t)

def lineS (s : List UInt8) (a : Int) : Int := if a < 0 ∨ (s.length : Int) < a then a else a + lineN (s.drop a.toNat)

/-- How many bytes of white space and comments; the mark says: within a comment. -/
def skipN : Bool → List UInt8 → Nat
  | _, [] => 0
  | false, c :: t => if whiteS c then 1 + skipN false t else if c = 37 then 1 + skipN true t else 0
  | true, c :: t => if c = 10 ∨ c = 13 then 1 + skipN false t else 1 + skipN true t

def skipS (s : List UInt8) (a : Int) : Int := if a < 0 ∨ (s.length : Int) < a then a else a + skipN false (s.drop a.toNat)

theorem lineN_le : ∀ l : List UInt8, lineN l ≤ l.length
  | [] => Nat.le_refl _
  | [_] => Nat.le_refl _
  | a :: b :: t => by
    have := lineN_le (b :: t)
    unfold lineN
    split
    · simp
    · split
      · simp
      · simp only [List.length_cons] at this ⊢; omega

theorem lineN_pos (c : UInt8) (t : List UInt8) : 0 < lineN (c :: t) := by
  cases t with
  | nil => simp [lineN]
  | cons b t => unfold lineN; split <;> (try split) <;> omega

theorem skipN_le (b : Bool) (l : List UInt8) : skipN b l ≤ l.length := by
  induction l generalizing b with
  | nil => cases b <;> simp [skipN]
  | cons c t ih =>
    have h1 := ih false
    have h2 := ih true
    cases b <;> unfold skipN <;> split <;> (try split) <;> simp only [List.length_cons] <;> omega

/-- In a comment: to the end of the line, and on. -/
theorem skipN_true (l : List UInt8) : skipN true l = lineN l + skipN false (l.drop (lineN l)) := by
  induction l with
  | nil => rfl
  | cons c t ih =>
    cases t with
    | nil =>
      show (if c = 10 ∨ c = 13 then 1 + skipN false [] else 1 + skipN true []) = 1 + skipN false []
      split <;> rfl
    | cons b t =>
      unfold lineN
      by_cases h : c = 13 ∧ b = 10
      · rw [if_pos h]
        obtain ⟨rfl, rfl⟩ := h
        simp only [List.drop_succ_cons, List.drop_zero]
        show 1 + (if whiteS 10 then 1 + skipN false t else _) = _
        rw [if_pos (by decide)]
        omega
      · rw [if_neg h]
        by_cases h2 : c = 10 ∨ c = 13
        · rw [if_pos h2]
          simp only [List.drop_succ_cons, List.drop_zero]
          show (if c = 10 ∨ c = 13 then _ else _) = _
          rw [if_pos h2]
        · rw [if_neg h2]
          show (if c = 10 ∨ c = 13 then _ else _) = _
          rw [if_neg h2, ih, Nat.add_comm 1 (lineN (b :: t)), List.drop_succ_cons]
          omega

theorem skipN_comment (t : List UInt8) : skipN false (37 :: t) = lineN (37 :: t) + skipN false ((37 :: t).drop (lineN (37 :: t))) := by
  show (if whiteS 37 then _ else if (37 : UInt8) = 37 then 1 + skipN true t else 0) = _
  rw [if_neg (by decide), if_pos rfl]
  have h := skipN_true (37 :: t)
  rw [← h]
  show _ = if (37 : UInt8) = 10 ∨ (37 : UInt8) = 13 then _ else 1 + skipN true t
  rw [if_neg (by decide)]

theorem skipN_white {c : UInt8} (t : List UInt8) (h : whiteS c = true) : skipN false (c :: t) = 1 + skipN false t := by
  show (if whiteS c then _ else _) = _
  rw [if_pos h]

theorem skipN_stop {c : UInt8} (t : List UInt8) (h : whiteS c = false) (h2 : c ≠ 37) : skipN false (c :: t) = 0 := by
  show (if whiteS c then _ else if c = 37 then _ else 0) = _
  rw [if_neg (by simp [h]), if_neg h2]

theorem all_bytes (p : UInt8 → Bool) (h : ((List.range 256).all fun n => p (UInt8.ofNat n)) = true) (c : UInt8) : p c = true := by
  have := List.all_eq_true.1 h c.toNat (List.mem_range.2 c.toNat_lt)
  simpa using this

theorem digit_regular (c : UInt8) (h : 0 ≤ digitS c) : regularS c = true := by
  have := all_bytes (fun c => decide (0 ≤ digitS c → regularS c = true)) (by decide +kernel) c
  exact of_decide_eq_true this h
theorem digit_le (c : UInt8) : digitS c ≤ 15 ∧ -1 ≤ digitS c := by
  have := all_bytes (fun c => decide (digitS c ≤ 15 ∧ -1 ≤ digitS c)) (by decide +kernel) c
  exact of_decide_eq_true this
theorem white_delim (c : UInt8) : whiteS c = true → delimS c = false := by
  have := all_bytes (fun c => decide (whiteS c = true → delimS c = false)) (by decide +kernel) c
  exact of_decide_eq_true this
theorem hexd_digit (c : UInt8) : digitS (hexd (c.toNat / 16)) = (c.toNat / 16 : Nat) ∧ digitS (hexd (c.toNat % 16)) = (c.toNat % 16 : Nat) ∧ UInt8.ofNat (16 * digitS (hexd (c.toNat / 16)) + digitS (hexd (c.toNat % 16))).toNat = c := by
  have := all_bytes (fun c => decide (digitS (hexd (c.toNat / 16)) = (c.toNat / 16 : Nat) ∧ digitS (hexd (c.toNat % 16)) = (c.toNat % 16 : Nat) ∧ UInt8.ofNat (16 * digitS (hexd (c.toNat / 16)) + digitS (hexd (c.toNat % 16))).toNat = c)) (by decide +kernel) c
  exact of_decide_eq_true this

theorem hexS_length (l : List UInt8) : (hexS l).length = 2 * l.length := by
  induction l with
  | nil => rfl
  | cons c t ih => simp only [hexS, List.length_cons, ih]; omega

theorem unhex_hex (l : List UInt8) : unhexS (hexS l) = some l := by
  induction l with
  | nil => rfl
  | cons c t ih =>
    obtain ⟨h1, h2, h3⟩ := hexd_digit c
    show (if digitS (hexd (c.toNat / 16)) < 0 ∨ digitS (hexd (c.toNat % 16)) < 0 then none else (unhexS (hexS t)).map (UInt8.ofNat (16 * digitS (hexd (c.toNat / 16)) + digitS (hexd (c.toNat % 16))).toNat :: ·)) = _
    rw [if_neg (by rw [h1, h2]; omega), ih, h3]
    rfl

theorem unhexS_even : ∀ l l' : List UInt8, unhexS l = some l' → l.length = 2 * l'.length
  | [], l', h => by cases h; rfl
  | [_], l', h => by cases h
  | a :: b :: t, l', h => by
    unfold unhexS at h
    split at h
    · cases h
    · cases hu : unhexS t with
      | none => rw [hu] at h; cases h
      | some m =>
        rw [hu] at h
        have := unhexS_even t m hu
        cases h
        simp only [List.length_cons]
        omega

/-- The round at place 2k: what has been read, and what is still to come. -/
theorem unhex_step (a b : UInt8) (t : List UInt8) (h1 : 0 ≤ digitS a) (h2 : 0 ≤ digitS b) : unhexS (a :: b :: t) = (unhexS t).map (UInt8.ofNat (16 * digitS a + digitS b).toNat :: ·) := by
  show (if digitS a < 0 ∨ digitS b < 0 then none else _) = _
  rw [if_neg (by omega)]
theorem unhex_bad (a b : UInt8) (t : List UInt8) (h : digitS a < 0 ∨ digitS b < 0) : unhexS (a :: b :: t) = none := by
  show (if digitS a < 0 ∨ digitS b < 0 then none else _) = _
  rw [if_pos h]

/- OctetSkips: where Skip and Line stop. -/
theorem skip_at (l : List UInt8) (h : skipN false l < l.length) : ∃ c t, l.drop (skipN false l) = c :: t ∧ whiteS c = false ∧ c ≠ 37 := by
  suffices H : ∀ b, skipN b l < l.length → ∃ c t, l.drop (skipN b l) = c :: t ∧ whiteS c = false ∧ c ≠ 37 from H false h
  clear h
  induction l with
  | nil => intro b h; cases b <;> simp [skipN] at h
  | cons c t ih =>
    intro b h
    cases b with
    | false =>
      by_cases hw : whiteS c = true
      · rw [skipN_white t hw] at h ⊢
        rw [Nat.add_comm 1, List.drop_succ_cons]
        exact ih false (by simp only [List.length_cons] at h; omega)
      · have hw : whiteS c = false := by simpa using hw
        by_cases h37 : c = 37
        · have e : skipN false (c :: t) = 1 + skipN true t := by
            show (if whiteS c then _ else if c = 37 then _ else 0) = _
            rw [if_neg (by simp [hw]), if_pos h37]
          rw [e] at h ⊢
          rw [Nat.add_comm 1, List.drop_succ_cons]
          exact ih true (by simp only [List.length_cons] at h; omega)
        · rw [skipN_stop t hw h37]
          exact ⟨c, t, rfl, hw, h37⟩
    | true =>
      by_cases hl : c = 10 ∨ c = 13
      · have e : skipN true (c :: t) = 1 + skipN false t := by
          show (if c = 10 ∨ c = 13 then _ else _) = _
          rw [if_pos hl]
        rw [e] at h ⊢
        rw [Nat.add_comm 1, List.drop_succ_cons]
        exact ih false (by simp only [List.length_cons] at h; omega)
      · have e : skipN true (c :: t) = 1 + skipN true t := by
          show (if c = 10 ∨ c = 13 then _ else _) = _
          rw [if_neg hl]
        rw [e] at h ⊢
        rw [Nat.add_comm 1, List.drop_succ_cons]
        exact ih true (by simp only [List.length_cons] at h; omega)

theorem skip_idem (l : List UInt8) : skipN false (l.drop (skipN false l)) = 0 := by
  rcases Nat.lt_or_ge (skipN false l) l.length with h | h
  · obtain ⟨c, t, e, hw, h37⟩ := skip_at l h
    rw [e, skipN_stop t hw h37]
  · rw [List.drop_eq_nil_of_le h]; rfl

theorem line_at : ∀ l : List UInt8, lineN l < l.length → 0 < lineN l ∧ (l[lineN l - 1]? = some 10 ∨ l[lineN l - 1]? = some 13)
  | [], h => by simp [lineN] at h
  | [_], h => by simp [lineN] at h
  | a :: b :: t, h => by
    have ih := line_at (b :: t)
    have hp := lineN_pos b t
    unfold lineN at h ⊢
    by_cases h1 : a = 13 ∧ b = 10
    · rw [if_pos h1]; exact ⟨by omega, .inl (by simp [h1.2])⟩
    · rw [if_neg h1] at h ⊢
      by_cases h2 : a = 10 ∨ a = 13
      · rw [if_pos h2]; exact ⟨by omega, by rcases h2 with rfl | rfl <;> simp⟩
      · rw [if_neg h2] at h ⊢
        obtain ⟨_, h4⟩ := ih (by simp only [List.length_cons] at h ⊢; omega)
        refine ⟨by omega, ?_⟩
        rw [show 1 + lineN (b :: t) - 1 = (lineN (b :: t) - 1) + 1 by omega, List.getElem?_cons_succ]
        exact h4

/-- A comment ahead: its line ends at its own end of line. -/
theorem line_remark (r l : List UInt8) (h : ∀ c ∈ r, c ≠ 10 ∧ c ≠ 13) : lineN (r ++ 10 :: l) = r.length + 1 := by
  induction r with
  | nil =>
    cases l with
    | nil => rfl
    | cons b t => show (if (10 : UInt8) = 13 ∧ b = 10 then 2 else if (10 : UInt8) = 10 ∨ (10 : UInt8) = 13 then 1 else _) = 1; rw [if_neg (by simp), if_pos (by simp)]
  | cons c t ih =>
    have hc := h c (by simp)
    have ih := ih fun x hx => h x (by simp [hx])
    cases t with
    | nil =>
      show (if c = 13 ∧ (10 : UInt8) = 10 then 2 else if c = 10 ∨ c = 13 then 1 else 1 + lineN (10 :: l)) = _
      rw [if_neg (by simp [hc.2]), if_neg (by simp [hc.1, hc.2])]
      have : lineN (10 :: l) = 1 := ih
      rw [this]; rfl
    | cons b t =>
      show (if c = 13 ∧ b = 10 then 2 else if c = 10 ∨ c = 13 then 1 else 1 + lineN (b :: (t ++ 10 :: l))) = _
      rw [if_neg (by simp [hc.2]), if_neg (by simp [hc.1, hc.2])]
      have : lineN (b :: (t ++ 10 :: l)) = (b :: t).length + 1 := ih
      rw [this]; simp only [List.length_cons]; omega

theorem skip_remark (r l : List UInt8) (h : ∀ c ∈ r, c ≠ 10 ∧ c ≠ 13) : skipN false (37 :: (r ++ 10 :: l)) = r.length + 2 + skipN false l ∧ lineN (37 :: (r ++ 10 :: l)) = r.length + 2 := by
  have h' : ∀ c ∈ (37 :: r), c ≠ 10 ∧ c ≠ 13 := by
    intro c hc
    rcases List.mem_cons.1 hc with rfl | hc
    · exact ⟨by decide, by decide⟩
    · exact h c hc
  have hl : lineN (37 :: (r ++ 10 :: l)) = r.length + 2 := line_remark (37 :: r) l h'
  refine ⟨?_, hl⟩
  rw [skipN_comment, hl]
  congr 2
  rw [List.drop_succ_cons, show r.length + 1 = r.length + 1 from rfl, List.drop_append]
  simp

def fromN (a : Int) : Nat := (max a 0).toNat

theorem occAt_drop (s sub : List UInt8) (f j : Nat) : occAt (s.drop f) sub j = occAt s sub (f + j) := by
  unfold occAt; rw [List.drop_drop]

theorem occAt_past {s sub : List UInt8} (hs : sub ≠ []) {j : Nat} (h : s.length ≤ j) : occAt s sub j = false := by
  cases ho : occAt s sub j with
  | false => rfl
  | true =>
    rcases occAt_room ho with h' | h'
    · have : 0 < sub.length := List.length_pos_iff.2 hs
      omega
    · exact absurd h' hs

theorem beginsS_nat (s sub : List UInt8) (i : Nat) : beginsS s sub i = (decide (i ≤ s.length) && occAt s sub i) := by
  unfold beginsS hasPrefix occAt
  have h0 : decide ((0 : Int) ≤ (i : Int)) = true := by simp
  rw [h0, Bool.true_and, Int.toNat_natCast]
  congr 1
  simp

theorem beginsS_ne {s sub : List UInt8} (hs : sub ≠ []) (i : Nat) : beginsS s sub i = occAt s sub i := by
  rw [beginsS_nat]
  by_cases h : i ≤ s.length
  · simp [h]
  · simp [h, occAt_past hs (by omega : s.length ≤ i)]

theorem findS_spec {s part : List UInt8} (hp : part ≠ []) (a : Int) :
    (findS s part a = -1 ∧ ∀ j, fromN a ≤ j → occAt s part j = false) ∨
    ∃ i : Nat, findS s part a = i ∧ fromN a ≤ i ∧ i < s.length ∧ occAt s part i = true ∧ ∀ j, fromN a ≤ j → j < i → occAt s part j = false := by
  have hm : (fromN a : Int) = max a 0 := by unfold fromN; omega
  unfold findS
  by_cases h : (s.length : Int) < max a 0
  · left
    refine ⟨by rw [if_pos (.inr h)], fun j hj => occAt_past hp (by omega)⟩
  · rw [if_neg (by simp [hp, h])]
    show (if index (s.drop (fromN a)) part < 0 then -1 else max a 0 + index (s.drop (fromN a)) part) = -1 ∧ _ ∨ _
    rcases index_spec (s.drop (fromN a)) part with ⟨e, hn⟩ | ⟨i, e, hi, ho, hn⟩
    · left
      refine ⟨by rw [e]; rfl, fun j hj => ?_⟩
      rcases Nat.lt_or_ge s.length j with hl | hl
      · exact occAt_past hp (by omega)
      · have := hn (j - fromN a) (by rw [List.length_drop]; omega)
        rwa [occAt_drop, show fromN a + (j - fromN a) = j by omega] at this
    · right
      rw [occAt_drop] at ho
      have hlt : fromN a + i < s.length := by
        rcases Nat.lt_or_ge (fromN a + i) s.length with h' | h'
        · exact h'
        · rw [occAt_past hp h'] at ho; cases ho
      refine ⟨fromN a + i, ?_, by omega, hlt, ho, fun j h1 h2 => ?_⟩
      · show (if index (s.drop (fromN a)) part < 0 then -1 else max a 0 + index (s.drop (fromN a)) part) = _
        rw [e, if_neg (by omega), ← hm]; push_cast; rfl
      · have := hn (j - fromN a) (by omega)
        rwa [occAt_drop, show fromN a + (j - fromN a) = j by omega] at this

theorem findS_empty (s : List UInt8) (a : Int) : findS s [] a = -1 := by unfold findS; rw [if_pos (.inl rfl)]

theorem findS_hit {s part : List UInt8} (hp : part ≠ []) (a : Int) {i : Nat} (h1 : fromN a ≤ i) (ho : occAt s part i = true) (hn : ∀ j, fromN a ≤ j → j < i → occAt s part j = false) : findS s part a = i := by
  rcases findS_spec (s := s) hp a with ⟨_, h⟩ | ⟨k, e, h2, _, h4, h5⟩
  · rw [h i h1] at ho; cases ho
  · rw [e]
    rcases Nat.lt_trichotomy k i with h | h | h
    · rw [hn k h2 h] at h4; cases h4
    · rw [h]
    · rw [h5 i h1 h] at ho; cases ho

theorem findS_none {s part : List UInt8} (hp : part ≠ []) (a : Int) (hn : ∀ j, fromN a ≤ j → j < s.length → occAt s part j = false) : findS s part a = -1 := by
  rcases findS_spec (s := s) hp a with ⟨e, _⟩ | ⟨k, _, h2, h3, h4, _⟩
  · exact e
  · rw [hn k h2 h3] at h4; cases h4

/-- The last place below k at which part occurs, or -1. -/
def lastUpto (s part : List UInt8) : Nat → Int
  | 0 => -1
  | k + 1 => if occAt s part k = true then (k : Int) else lastUpto s part k

def lastS (s part : List UInt8) : Int := if part = [] then -1 else lastUpto s part s.length

theorem lastUpto_spec (s part : List UInt8) : ∀ k : Nat, (lastUpto s part k = -1 ∧ ∀ j, j < k → occAt s part j = false) ∨
    ∃ i : Nat, i < k ∧ lastUpto s part k = i ∧ occAt s part i = true ∧ ∀ j, i < j → j < k → occAt s part j = false
  | 0 => .inl ⟨rfl, fun _ h => absurd h (Nat.not_lt_zero _)⟩
  | k + 1 => by
    unfold lastUpto
    cases h : occAt s part k
    · rw [if_neg (by simp)]
      rcases lastUpto_spec s part k with ⟨e, hn⟩ | ⟨i, hi, e, hc, hn⟩
      · exact .inl ⟨e, fun j hj => by rcases Nat.lt_succ_iff_lt_or_eq.1 hj with h' | rfl; exact hn j h'; exact h⟩
      · exact .inr ⟨i, by omega, e, hc, fun j h1 h2 => by rcases Nat.lt_succ_iff_lt_or_eq.1 h2 with h' | rfl; exact hn j h1 h'; exact h⟩
    · rw [if_pos rfl]
      exact .inr ⟨k, Nat.lt_succ_self k, rfl, h, fun j h1 h2 => by omega⟩

theorem lastUpto_hit (s part : List UInt8) (k : Nat) (h : occAt s part k = true) : lastUpto s part (k + 1) = k := by unfold lastUpto; rw [if_pos h]
theorem lastUpto_miss (s part : List UInt8) (k : Nat) (h : occAt s part k = false) : lastUpto s part (k + 1) = lastUpto s part k := by
  conv => lhs; unfold lastUpto
  rw [if_neg (by simp [h])]

theorem lastS_spec {s part : List UInt8} (hp : part ≠ []) : (lastS s part = -1 ∧ ∀ j, occAt s part j = false) ∨
    ∃ i : Nat, i < s.length ∧ lastS s part = i ∧ occAt s part i = true ∧ ∀ j, i < j → occAt s part j = false := by
  have e0 : lastS s part = lastUpto s part s.length := by unfold lastS; rw [if_neg hp]
  rw [e0]
  rcases lastUpto_spec s part s.length with ⟨e, hn⟩ | ⟨i, hi, e, hc, hn⟩
  · refine .inl ⟨e, fun j => ?_⟩
    rcases Nat.lt_or_ge j s.length with h | h
    · exact hn j h
    · exact occAt_past hp h
  · refine .inr ⟨i, hi, e, hc, fun j h1 => ?_⟩
    rcases Nat.lt_or_ge j s.length with h | h
    · exact hn j h1 h
    · exact occAt_past hp h

theorem lastS_empty (s : List UInt8) : lastS s [] = -1 := by unfold lastS; rw [if_pos rfl]

/-- What OctetFinds asks, all at once. -/
theorem finds (s part : List UInt8) (a : Int) : ∃ f l : Int, findS s part a = f ∧ lastS s part = l ∧
    (0 ≤ f → a ≤ f ∧ beginsS s part f = true ∧ part ≠ [] ∧ f ≤ l) ∧
    (part ≠ [] → ∀ i : Nat, fromN a ≤ i → (f < 0 ∨ (i : Int) < f) → beginsS s part i = false) ∧
    (l < 0 → findS s part 0 < 0) ∧ (0 ≤ l → beginsS s part l = true ∧ findS s part l = l ∧ findS s part (l + 1) < 0) := by
  refine ⟨_, _, rfl, rfl, ?_⟩
  by_cases hp : part = []
  · subst hp
    rw [findS_empty, lastS_empty, findS_empty]
    exact ⟨fun h => absurd h (by decide), fun h => absurd rfl h, fun _ => by decide, fun h => absurd h (by decide)⟩
  · refine ⟨fun h => ?_, fun _ i h1 h2 => ?_, fun h => ?_, fun h => ?_⟩
    · rcases findS_spec (s := s) hp a with ⟨e, _⟩ | ⟨i, e, h1, h2, h3, _⟩
      · rw [e] at h; exact absurd h (by decide)
      · have hi : (fromN a : Int) = max a 0 := by unfold fromN; omega
        rw [e]
        refine ⟨by omega, by rw [beginsS_ne hp]; exact h3, hp, ?_⟩
        rcases lastS_spec (s := s) hp with ⟨_, hn⟩ | ⟨k, _, e2, _, hn⟩
        · rw [hn i] at h3; cases h3
        · rw [e2]
          rcases Nat.lt_or_ge k i with hk | hk
          · rw [hn i hk] at h3; cases h3
          · omega
    · rw [beginsS_ne hp]
      rcases findS_spec (s := s) hp a with ⟨e, hn⟩ | ⟨k, e, _, _, _, hn⟩
      · exact hn i h1
      · exact hn i h1 (by omega)
    · rcases lastS_spec (s := s) hp with ⟨e, hn⟩ | ⟨k, hk, e, _, _⟩
      · rw [findS_none hp 0 fun j _ _ => hn j]; decide
      · omega
    · rcases lastS_spec (s := s) hp with ⟨e, hn⟩ | ⟨k, hk, e, ho, hn⟩
      · omega
      · rw [e]
        refine ⟨by rw [beginsS_ne hp]; exact ho, ?_, ?_⟩
        · exact findS_hit hp _ (by unfold fromN; omega) ho fun j h1 h2 => absurd h2 (by unfold fromN at h1; omega)
        · rw [findS_none hp _ fun j h1 _ => hn j (by unfold fromN at h1; omega)]; decide

theorem memS_yes {c : UInt8} {l : List UInt8} {k : Nat} (h : k < l.length) (e : l[k] = c) : memS c l = true := by
  unfold memS; rw [List.contains_iff_mem, ← e]; exact List.getElem_mem h
theorem memS_no {c : UInt8} {l : List UInt8} (h : ∀ k, (hk : k < l.length) → l[k] ≠ c) : memS c l = false := by
  unfold memS
  cases hc : l.contains c with
  | false => rfl
  | true =>
    obtain ⟨k, hk, e⟩ := List.getElem_of_mem (List.contains_iff_mem.1 hc)
    exact absurd e (h k hk)
theorem mem_white (c : UInt8) : memS c [0, 9, 10, 12, 13, 32] = whiteS c := by
  have := all_bytes (fun c => memS c [0, 9, 10, 12, 13, 32] == whiteS c) (by decide +kernel) c
  exact eq_of_beq this
theorem mem_delim (c : UInt8) : memS c [40, 41, 60, 62, 91, 93, 123, 125, 47, 37] = delimS c := by
  have := all_bytes (fun c => memS c [40, 41, 60, 62, 91, 93, 123, 125, 47, 37] == delimS c) (by decide +kernel) c
  exact eq_of_beq this
theorem mem_eol (c : UInt8) : memS c [13, 10] = (c == 13 || c == 10) := by
  have := all_bytes (fun c => memS c [13, 10] == (c == 13 || c == 10)) (by decide +kernel) c
  exact eq_of_beq this

/- Digit, as its text finds it: lower case turned to upper case, then the place in a list of digits. -/
def dgN (k : Nat) : Nat := if k < 10 then 48 + k else 55 + k
def foldN (c : UInt8) : Nat := if 97 ≤ c.toNat ∧ c.toNat ≤ 102 then c.toNat - 32 else c.toNat
def Missed (c : UInt8) (k : Nat) : Prop := ∀ j, j < k → dgN j ≠ foldN c
theorem digit_hit (c : UInt8) {k : Nat} (hk : k < 16) (h : dgN k = foldN c) : digitS c = k := by
  have := all_bytes (fun c => (List.range 16).all fun k => decide (dgN k = foldN c → digitS c = k)) (by decide +kernel) c
  exact of_decide_eq_true (List.all_eq_true.1 this k (List.mem_range.2 hk)) h
theorem digit_none (c : UInt8) (h : Missed c 16) : digitS c = -1 := by
  have := all_bytes (fun c => (List.range 16).any (fun k => dgN k == foldN c) || digitS c == -1) (by decide +kernel) c
  rcases Bool.or_eq_true_iff.1 this with h1 | h1
  · obtain ⟨k, hk, e⟩ := List.any_eq_true.1 h1
    exact absurd (eq_of_beq e) (h k (List.mem_range.1 hk))
  · exact eq_of_beq h1
theorem Missed.succ {c : UInt8} {k : Nat} (h : Missed c k) (hk : dgN k ≠ foldN c) : Missed c (k + 1) := fun j hj => by
  rcases Nat.lt_succ_iff_lt_or_eq.1 hj with h' | rfl
  · exact h j h'
  · exact hk
theorem dgN_at (k : Nat) (hk : k < 16) : ((#[48, 49, 50, 51, 52, 53, 54, 55, 56, 57, 65, 66, 67, 68, 69, 70] : Array UInt8)[k]'hk).toNat = dgN k := by
  have : ∀ k : Fin 16, ((#[48, 49, 50, 51, 52, 53, 54, 55, 56, 57, 65, 66, 67, 68, 69, 70] : Array UInt8)[k.1]'k.2).toNat = dgN k.1 := by decide +kernel
  exact this ⟨k, hk⟩

/- Line, as its text finds it: no end of line among the first k bytes from a on. -/
def LineAt (l : List UInt8) (a k : Nat) : Prop := lineN (l.drop a) = k + lineN (l.drop (a + k))
theorem LineAt.zero (l : List UInt8) (a : Nat) : LineAt l a 0 := by unfold LineAt; rw [Nat.add_zero, Nat.zero_add]
theorem lineN_to (l : List UInt8) (a : Nat) : a + lineN (l.drop a) ≤ max a l.length := by
  have := lineN_le (l.drop a)
  rw [List.length_drop] at this
  omega
theorem drop_at {l : List UInt8} {k : Nat} (h : k < l.length) : l.drop k = l[k] :: l.drop (k + 1) := List.drop_eq_getElem_cons h
theorem begins_two (l : List UInt8) (k : Nat) : beginsS l [13, 10] k = true ↔ ∃ t, l.drop k = 13 :: 10 :: t := by
  rw [beginsS_nat]
  unfold occAt
  constructor
  · intro h
    have h2 := (Bool.and_eq_true_iff.1 h).2
    obtain ⟨t, ht⟩ := List.isPrefixOf_iff_prefix.1 h2
    exact ⟨t, ht.symm⟩
  · rintro ⟨t, ht⟩
    have hk : k ≤ l.length := by
      rcases Nat.lt_or_ge l.length k with h | h
      · rw [List.drop_eq_nil_of_le (by omega)] at ht; cases ht
      · exact h
    rw [ht, decide_eq_true hk]
    rfl
theorem line_crlf (t : List UInt8) : lineN (13 :: 10 :: t) = 2 := by unfold lineN; rw [if_pos ⟨rfl, rfl⟩]
theorem line_eol {c : UInt8} {t : List UInt8} (hc : c = 10 ∨ c = 13) (h : ∀ u, c :: t ≠ 13 :: 10 :: u) : lineN (c :: t) = 1 := by
  cases t with
  | nil => rfl
  | cons b u =>
    unfold lineN
    rw [if_neg (fun e => h u (by rw [e.1, e.2])), if_pos hc]
theorem line_more {c : UInt8} {t : List UInt8} (hc : ¬(c = 10 ∨ c = 13)) : lineN (c :: t) = 1 + lineN t := by
  cases t with
  | nil => rfl
  | cons b u =>
    conv => lhs; unfold lineN
    rw [if_neg (fun e => hc (.inr e.1)), if_neg hc]
theorem eol_of {c : UInt8} (h : memS c [13, 10] = true) : c = 10 ∨ c = 13 := by
  rw [mem_eol] at h
  rcases Bool.or_eq_true_iff.1 h with h | h
  · exact .inr (eq_of_beq h)
  · exact .inl (eq_of_beq h)
theorem eol_not {c : UInt8} (h : memS c [13, 10] = false) : ¬(c = 10 ∨ c = 13) := by
  rw [mem_eol] at h
  rintro (rfl | rfl) <;> simp at h
theorem LineAt.two {l : List UInt8} {a k : Nat} (h : LineAt l a k) (hb : beginsS l [13, 10] ((a : Int) + (k : Int)) = true) : (a : Int) + (k : Int) + 2 = ((a + lineN (l.drop a) : Nat) : Int) := by
  obtain ⟨t, ht⟩ := (begins_two l (a + k)).1 (by rw [Int.natCast_add]; exact hb)
  unfold LineAt at h
  rw [ht, line_crlf] at h
  omega
theorem LineAt.one {l : List UInt8} {a k : Nat} (h : LineAt l a k) (hk : a + k < l.length) (hb : beginsS l [13, 10] ((a : Int) + (k : Int)) = false) (hm : memS l[a + k] [13, 10] = true) : (a : Int) + (k : Int) + 1 = ((a + lineN (l.drop a) : Nat) : Int) := by
  unfold LineAt at h
  have hne : ∀ u, l[a + k] :: l.drop (a + k + 1) ≠ 13 :: 10 :: u := fun u e => by
    rw [← drop_at hk] at e
    have := (begins_two l (a + k)).2 ⟨u, e⟩
    rw [Int.natCast_add, hb] at this
    cases this
  rw [drop_at hk, line_eol (eol_of hm) hne] at h
  omega
theorem LineAt.more {l : List UInt8} {a k : Nat} (h : LineAt l a k) (hk : a + k < l.length) (hm : memS l[a + k] [13, 10] = false) : LineAt l a (k + 1) := by
  unfold LineAt at h ⊢
  rw [drop_at hk, line_more (eol_not hm)] at h
  rw [h]
  show _ = k + 1 + lineN (l.drop (a + k + 1))
  omega
theorem LineAt.done {l : List UInt8} {a k : Nat} (h : LineAt l a k) (hk : a + k = l.length) : (l.length : Int) = ((a + lineN (l.drop a) : Nat) : Int) := by
  unfold LineAt at h
  rw [List.drop_eq_nil_of_le (by omega : l.length ≤ a + k)] at h
  have : lineN [] = 0 := rfl
  omega

/- Skip, as its text finds it. -/
def SkipTo (l : List UInt8) (a k : Nat) : Prop := a + skipN false (l.drop a) = k + skipN false (l.drop k)
def SkipAt (l : List UInt8) (a k : Nat) : Prop := a + skipN false (l.drop a) = k
theorem SkipTo.zero (l : List UInt8) (a : Nat) : SkipTo l a a := rfl
theorem SkipTo.white {l : List UInt8} {a k : Nat} (h : SkipTo l a k) (hk : k < l.length) (hw : whiteS l[k] = true) : SkipTo l a (k + 1) := by
  unfold SkipTo at h ⊢
  rw [h, drop_at hk, skipN_white _ hw]
  omega
theorem SkipTo.comment {l : List UInt8} {a k j : Nat} (h : SkipTo l a k) (hk : k < l.length) (hw : ((l[k].toNat : Int) == 37) = true) (hj : k + lineN (l.drop k) = j) : SkipTo l a j := by
  have hc : l[k] = 37 := UInt8.toNat_inj.1 (by have := eq_of_beq hw; have e : (37 : UInt8).toNat = 37 := rfl; omega)
  unfold SkipTo at h ⊢
  rw [h, ← hj]
  have e : l.drop k = 37 :: l.drop (k + 1) := by rw [drop_at hk, hc]
  rw [e, skipN_comment, ← e, List.drop_drop]
  omega
theorem SkipTo.stop {l : List UInt8} {a k : Nat} (h : SkipTo l a k) (hk : k < l.length) (hw : whiteS l[k] = false) (hc : ((l[k].toNat : Int) == 37) = false) : SkipAt l a k := by
  unfold SkipTo at h
  unfold SkipAt
  rw [h, drop_at hk, skipN_stop _ hw (by intro e; rw [e] at hc; cases hc)]
  rfl
theorem SkipTo.done {l : List UInt8} {a k : Nat} (h : SkipTo l a k) (hk : l.length ≤ k) : SkipAt l a k := by
  unfold SkipTo at h
  unfold SkipAt
  rw [h, List.drop_eq_nil_of_le hk]
  rfl

/- Hex and Unhex, a byte at a time. -/
theorem hexS_append (l m : List UInt8) : hexS (l ++ m) = hexS l ++ hexS m := by
  induction l with
  | nil => rfl
  | cons c t ih => simp only [List.cons_append, hexS, ih]
theorem take_more {l : List UInt8} {k : Nat} (h : k < l.length) : l.take (k + 1) = l.take k ++ [l[k]] := by
  rw [List.take_succ_eq_append_getElem h]
theorem hexS_more {l : List UInt8} {k : Nat} (h : k < l.length) : hexS (l.take (k + 1)) = hexS (l.take k) ++ [hexd (l[k].toNat / 16), hexd (l[k].toNat % 16)] := by
  rw [take_more h, hexS_append]; rfl
theorem hexd_nat (n : Nat) (h : n < 16) : (hexd n).toNat = dgN n := by
  have : ∀ n : Fin 16, (hexd n.1).toNat = dgN n.1 := by decide +kernel
  exact this ⟨n, h⟩
theorem unhexS_append : ∀ (x y l : List UInt8), unhexS x = some l → unhexS (x ++ y) = (unhexS y).map (l ++ ·)
  | [], y, l, h => by
    cases h
    simp
  | [_], y, l, h => by cases h
  | a :: b :: t, y, l, h => by
    unfold unhexS at h
    split at h
    · cases h
    · rename_i hd
      cases hu : unhexS t with
      | none => rw [hu] at h; cases h
      | some m =>
        rw [hu] at h
        have ih := unhexS_append t y m hu
        cases h
        show (if digitS a < 0 ∨ digitS b < 0 then none else (unhexS (t ++ y)).map (UInt8.ofNat (16 * digitS a + digitS b).toNat :: ·)) = _
        rw [if_neg hd, ih]
        cases unhexS y <;> simp
theorem drop_two {l : List UInt8} {k : Nat} (h : k + 1 < l.length) : l.drop k = l[k] :: l[k + 1] :: l.drop (k + 2) := by
  rw [drop_at (by omega : k < l.length), drop_at h]
theorem unhex_fail {l m : List UInt8} {k : Nat} (h : unhexS (l.take k) = some m) (hk : k + 1 < l.length) (hb : digitS l[k] < 0 ∨ digitS l[k + 1] < 0) : unhexS l = none := by
  have e := unhexS_append (l.take k) (l.drop k) m h
  rw [List.take_append_drop, drop_two hk, unhex_bad _ _ _ hb] at e
  exact e
theorem take_two {l : List UInt8} {k : Nat} (h : k + 1 < l.length) : l.take (k + 2) = l.take k ++ [l[k], l[k + 1]] := by
  rw [take_more (by omega : k + 1 < l.length), take_more (by omega : k < l.length), List.append_assoc]
  rfl
def pairByte (a b : UInt8) : UInt8 := UInt8.ofNat (16 * digitS a + digitS b).toNat
theorem unhex_more {l m : List UInt8} {k : Nat} (h : unhexS (l.take k) = some m) (hk : k + 1 < l.length) (h1 : 0 ≤ digitS l[k]) (h2 : 0 ≤ digitS l[k + 1]) : unhexS (l.take (k + 2)) = some (m ++ [pairByte l[k] l[k + 1]]) := by
  rw [take_two hk, unhexS_append _ _ _ h, unhex_step _ _ _ h1 h2]
  rfl
theorem pairByte_int (a b : UInt8) (h1 : 0 ≤ digitS a) (h2 : 0 ≤ digitS b) : ((pairByte a b).toNat : Int) = 16 * digitS a + digitS b := by
  have ha := (digit_le a).1
  have hb := (digit_le b).1
  unfold pairByte
  rw [UInt8.toNat_ofNat']
  omega
end Go.Proofs.Yticliemmplefoaa.Oct
