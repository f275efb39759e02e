/-
  Lemmas and walks, joined: PlnMath, PlnTok, PlnA, PlnB.
-/
import Derived.Test.YtdpbpdikgcepbaaGreatDoorHz11
import Derived.Test.YtdpbpdikgcepbaaGreatDoorHz12
import Derived.Test.YtdpbpdikgcepbaaGreatDoorHz09
import Derived.Test.YtdpbpdikgcepbaaGreatDoorHz10
import Derived.Test.YtdpbpdikgcepbaaGreatDoorHz04
import Derived.Lib.Hide
import Derived.Test.YtdpbpdikgcepbaaGreatDoorHz08
import Derived.Outline
namespace Go.Proofs.YtdpbpdikgcepbaaGreatDoor.Lex
open Go.Proofs.YtdpbpdikgcepbaaGreatDoor.Oct Go.Proofs.YtdpbpdikgcepbaaGreatDoor.Fix

/-! ### A token's bytes with others behind them. -/
theorem hex_more (t r : List UInt8) (h : (hexL t).1 = 0) : hexL (t ++ r) = hexL t := by
  induction t with
  | nil => rw [hexL] at h; cases h
  | cons c t ih =>
    rw [List.cons_append]
    by_cases h1 : c = 62
    · rw [h1, hex_cons_end, hex_cons_end]
    by_cases h2 : 0 ≤ digitS c
    · rw [hex_cons_dig _ h1 h2] at h ⊢
      rw [hex_cons_dig _ h1 h2, ih h]
    by_cases h3 : whiteS c = true
    · rw [hex_cons_white _ h1 h2 h3] at h ⊢
      rw [hex_cons_white _ h1 h2 h3, ih h]
    · rw [hex_cons_bad _ h1 h2 h3] at h; cases h
theorem oct_more (j m : Nat) (l r : List UInt8) (h : (octN j m l).2 < l.length) : octN j m (l ++ r) = octN j m l := by
  induction j generalizing m l with
  | zero => rw [octN, octN]
  | succ j ih =>
    cases l with
    | nil => simp at h
    | cons c t =>
      rw [List.cons_append]
      by_cases hc : octD c = true
      · rw [octN, if_pos hc] at h ⊢
        rw [octN, if_pos hc, ih _ t (by simp at h ⊢; omega)]
      · rw [octN, if_neg hc, octN, if_neg hc]
theorem line_more {c : UInt8} (t r : List UInt8) (h : c = 13 ∨ c = 10) (ht : t ≠ []) : lineN ((c :: t) ++ r) = lineN (c :: t) := by
  cases t with
  | nil => exact absurd rfl ht
  | cons b t =>
    show (if c = 13 ∧ b = 10 then 2 else if c = 10 ∨ c = 13 then 1 else 1 + lineN (b :: (t ++ r))) = (if c = 13 ∧ b = 10 then 2 else if c = 10 ∨ c = 13 then 1 else 1 + lineN (b :: t))
    split
    · rfl
    · rw [if_pos h.symm, if_pos h.symm]
theorem line_short {c : UInt8} {t : List UInt8} (h : lineN (c :: t) < (c :: t).length) : t ≠ [] := by
  rintro rfl
  simp [lineN] at h
theorem esc_more (c : UInt8) (t r : List UInt8) (h : (escL (c :: t)).2 < (c :: t).length) : escL ((c :: t) ++ r) = escL (c :: t) := by
  rw [List.cons_append]
  rw [escL] at h ⊢
  rw [escL]
  by_cases h1 : c = 110
  · rw [if_pos h1, if_pos h1]
  rw [if_neg h1] at h ⊢
  rw [if_neg h1]
  by_cases h2 : c = 114
  · rw [if_pos h2, if_pos h2]
  rw [if_neg h2] at h ⊢
  rw [if_neg h2]
  by_cases h3 : c = 116
  · rw [if_pos h3, if_pos h3]
  rw [if_neg h3] at h ⊢
  rw [if_neg h3]
  by_cases h4 : c = 98
  · rw [if_pos h4, if_pos h4]
  rw [if_neg h4] at h ⊢
  rw [if_neg h4]
  by_cases h5 : c = 102
  · rw [if_pos h5, if_pos h5]
  rw [if_neg h5] at h ⊢
  rw [if_neg h5]
  by_cases h6 : c = 13
  · rw [if_pos h6] at h ⊢
    rw [if_pos h6]
    have := line_more t r (.inl h6) (line_short h)
    rw [List.cons_append] at this
    rw [this]
  rw [if_neg h6] at h ⊢
  rw [if_neg h6]
  by_cases h7 : c = 10
  · rw [if_pos h7] at h ⊢
    rw [if_pos h7]
    have := line_more t r (.inr h7) (line_short h)
    rw [List.cons_append] at this
    rw [this]
  rw [if_neg h7] at h ⊢
  rw [if_neg h7]
  by_cases h8 : octD c = true
  · rw [if_pos h8] at h ⊢
    rw [if_pos h8]
    have := oct_more 3 0 (c :: t) r h
    rw [List.cons_append] at this
    rw [this]
  · rw [if_neg h8, if_neg h8]
theorem lit_more (f : Nat) : ∀ (d : Nat) (l r x : List UInt8) (n g : Nat), litL f d l = some (x, n) → f ≤ g → litL g d (l ++ r) = some (x, n) := by
  induction f with
  | zero => intro d l r x n g h; rw [litL] at h; cases h
  | succ f ih =>
    intro d l r x n g h hg
    obtain ⟨g, rfl⟩ : ∃ e, g = e + 1 := ⟨g - 1, by omega⟩
    rcases l with _ | ⟨c, t⟩
    · rw [lit_end] at h; cases h
    rw [List.cons_append]
    by_cases h1 : c = 92
    · rcases t with _ | ⟨b, t⟩
      · rw [lit_cut h1] at h; cases h
      rw [lit_back h1 (by simp)] at h
      obtain ⟨y, m, hm, rfl, rfl⟩ := pre_some h
      have hpos := (lit_take _ _ _ _ _ hm).1
      have hlen := (lit_take _ _ _ _ _ hm).2.1
      rw [List.length_drop] at hlen
      have he := esc_more b t r (by omega)
      rw [lit_back h1 (by simp), he, List.drop_append_of_le_length (by omega), ih _ _ r _ _ g hm (by omega)]
      simp [pre]
    by_cases h2 : c = 13 ∨ c = 10
    · rw [lit_line h2] at h
      obtain ⟨y, m, hm, rfl, rfl⟩ := pre_some h
      have hpos := (lit_take _ _ _ _ _ hm).1
      have hlen := (lit_take _ _ _ _ _ hm).2.1
      rw [List.length_drop] at hlen
      have he := line_more t r h2 (line_short (c := c) (by omega))
      rw [List.cons_append] at he
      rw [lit_line h2, he, ← List.cons_append, List.drop_append_of_le_length (by omega), ih _ _ r _ _ g hm (by omega)]
      simp [pre]
    by_cases h3 : c = 41
    · by_cases hd : d = 1
      · subst hd
        rw [lit_done h3] at h ⊢
        exact h
      · rw [lit_close h3 hd] at h ⊢
        obtain ⟨y, m, hm, rfl, rfl⟩ := pre_some h
        rw [ih _ _ r _ _ g hm (by omega)]
        simp [pre]
    by_cases h4 : c = 40
    · rw [lit_open h4] at h ⊢
      obtain ⟨y, m, hm, rfl, rfl⟩ := pre_some h
      rw [ih _ _ r _ _ g hm (by omega)]
      simp [pre]
    · rw [lit_plain h1 h2 h3 h4] at h ⊢
      obtain ⟨y, m, hm, rfl, rfl⟩ := pre_some h
      rw [ih _ _ r _ _ g hm (by omega)]
      simp [pre]

/-- Does a token that ends with c take in the byte d? -/
def runOnS (c d : UInt8) : Bool := (regularS c || c == 47) && regularS d
/-- What follows a last byte takes no part in the token ahead. -/
def Apart (c : UInt8) (r : List UInt8) : Prop := ∀ d u, r = d :: u → runOnS c d = false
theorem run_mem {l : List UInt8} (h : runL l = l) : ∀ c ∈ l, regularS c = true := by
  induction l with
  | nil => intro c hc; cases hc
  | cons a l ih =>
    unfold runL at h
    rw [List.takeWhile_cons] at h
    cases ha : regularS a with
    | false => rw [ha] at h; simp at h
    | true =>
      rw [ha, if_pos rfl] at h
      intro c hc
      rcases List.mem_cons.1 hc with rfl | hc
      · exact ha
      · exact ih (List.cons.inj h).2 c hc
theorem run_apart {l r : List UInt8} (h : runL l = l) (hr : ∀ d u, r = d :: u → regularS d = false) : runL (l ++ r) = l := by
  have hm := run_mem h
  unfold runL
  rw [List.takeWhile_append_of_pos hm]
  cases r with
  | nil => simp
  | cons d u => rw [List.takeWhile_cons, hr d u rfl]; simp
theorem apart_reg {l r : List UInt8} {c : UInt8} (_hl : l.getLast? = some c) (hc : regularS c = true ∨ c = 47) (hr : Apart c r) : ∀ d u, r = d :: u → regularS d = false := by
  intro d u e
  have := hr d u e
  unfold runOnS at this
  rcases hc with h | h
  · simpa [h] using this
  · simpa [h] using this
/-- A token's bytes, with others behind them that it does not take in. -/
theorem tok_more (c : UInt8) (t r : List UInt8) (last : UInt8) (hl : (c :: t).getLast? = some last) (h : (tokR (c :: t)).err = 0) (hlen : (tokR (c :: t)).len = (c :: t).length) (hr : Apart last r) : tokR (c :: (t ++ r)) = tokR (c :: t) := by
  rw [tokR] at h hlen ⊢
  rw [tokR]
  by_cases h1 : c = 91
  · rw [if_pos h1, if_pos h1]
  rw [if_neg h1] at h hlen ⊢
  rw [if_neg h1]
  by_cases h2 : c = 93
  · rw [if_pos h2, if_pos h2]
  rw [if_neg h2] at h hlen ⊢
  rw [if_neg h2]
  by_cases h3 : c = 123
  · rw [if_pos h3, if_pos h3]
  rw [if_neg h3] at h hlen ⊢
  rw [if_neg h3]
  by_cases h4 : c = 125
  · rw [if_pos h4, if_pos h4]
  rw [if_neg h4] at h hlen ⊢
  rw [if_neg h4]
  by_cases h5 : c = 60
  · rw [if_pos h5] at h hlen ⊢
    rw [if_pos h5]
    by_cases h6 : t.head? = some 60
    · rw [if_pos h6, if_pos]
      cases t with
      | nil => cases h6
      | cons b t => simpa using h6
    · rw [if_neg h6] at h hlen ⊢
      cases t with
      | nil => unfold hexR at h; rw [hexL] at h; simp [bad] at h
      | cons b t =>
        rw [if_neg (by simpa using h6)]
        unfold hexR at h ⊢
        by_cases h7 : (hexL (b :: t)).1 = 0
        · rw [hex_more _ r h7]
        · rw [if_neg h7] at h; exact absurd h h7
  rw [if_neg h5] at h hlen ⊢
  rw [if_neg h5]
  by_cases h6 : c = 62
  · rw [if_pos h6] at h hlen ⊢
    rw [if_pos h6]
    by_cases h7 : t.head? = some 62
    · rw [if_pos h7, if_pos]
      cases t with
      | nil => cases h7
      | cons b t => simpa using h7
    · rw [if_neg h7] at h; cases h
  rw [if_neg h6] at h hlen ⊢
  rw [if_neg h6]
  by_cases h7 : c = 41
  · rw [if_pos h7] at h; cases h
  rw [if_neg h7] at h hlen ⊢
  rw [if_neg h7]
  by_cases h8 : c = 40
  · rw [if_pos h8] at h hlen ⊢
    rw [if_pos h8]
    unfold litR at h ⊢
    cases hx : litL t.length 1 t with
    | none => rw [hx] at h; cases h
    | some xn =>
      obtain ⟨x, n⟩ := xn
      rw [lit_more _ _ _ r _ _ (t ++ r).length hx (by simp)]
  rw [if_neg h8] at h hlen ⊢
  rw [if_neg h8]
  by_cases h9 : c = 47
  · rw [if_pos h9] at h hlen ⊢
    rw [if_pos h9]
    have hrun : runL t = t := by
      have h0 : (runL t).length = t.length := by
        unfold nameR at h hlen
        cases hd : decL (runL t) with
        | none => rw [hd] at h; cases h
        | some n =>
          rw [hd] at h hlen
          simp only at h hlen
          by_cases hn : 127 < n.length
          · rw [if_pos hn] at h; cases h
          · rw [if_neg hn] at hlen; simp at hlen; omega
      exact (List.prefix_iff_eq_take.1 (List.takeWhile_prefix (l := t) regularS)).trans (by show t.take (runL t).length = t; rw [h0, List.take_length])
    have hc : regularS last = true ∨ last = 47 := by
      cases ht : t.getLast? with
      | none =>
        rw [List.getLast?_eq_none_iff] at ht
        subst ht
        simp at hl
        exact .inr (hl ▸ h9)
      | some x =>
        rw [List.getLast?_cons, ht] at hl
        simp at hl
        subst hl
        exact .inl (run_mem hrun x (List.mem_of_getLast? ht))
    have hra := run_apart hrun (apart_reg hl hc hr)
    unfold nameR
    rw [hra, hrun]
  rw [if_neg h9] at h hlen ⊢
  rw [if_neg h9]
  have hrun : runL (c :: t) = c :: t := by
    have h0 := word_len _ h
    rw [h0] at hlen
    exact (List.prefix_iff_eq_take.1 (List.takeWhile_prefix (l := c :: t) regularS)).trans (by show (c :: t).take (runL (c :: t)).length = c :: t; rw [hlen, List.take_length])
  have hra := run_apart hrun (apart_reg hl (.inl (run_mem hrun last (List.mem_of_getLast? hl))) hr)
  rw [List.cons_append] at hra
  rw [hra, hrun]

/-! ### Whole tokens, joined. -/
/-- p is one token, whole. -/
def WholeT (p : List UInt8) (R : TR) : Prop := (∃ c t, p = c :: t ∧ whiteS c = false ∧ c ≠ 37) ∧ tokR p = R ∧ R.err = 0 ∧ R.kind ≠ 0 ∧ R.len = p.length
theorem whole_of {p : List UInt8} (he : (nextR p 0).err = 0) (hk : (nextR p 0).kind ≠ 0) (hi : nextI p 0 = 0) (hl : (nextR p 0).len = p.length) : WholeT p (nextR p 0) := by
  obtain ⟨n1, n2, n3⟩ := next_some (Nat.zero_le _) he hk
  obtain ⟨c, t, e, hw, h37⟩ := next_head (Nat.zero_le _) n1
  rw [hi, List.drop_zero] at e
  refine ⟨⟨c, t, e, hw, h37⟩, ?_, he, hk, hl⟩
  unfold nextR
  rw [hi, List.drop_zero]
theorem whole_next {p : List UInt8} {R : TR} (h : WholeT p R) : nextI p 0 = 0 ∧ nextR p 0 = R := by
  obtain ⟨⟨c, t, rfl, hw, h37⟩, h1, _⟩ := h
  have hi : nextI (c :: t) 0 = 0 := by unfold nextI; rw [List.drop_zero, skipN_stop t hw h37]
  refine ⟨hi, ?_⟩
  unfold nextR
  rw [hi, List.drop_zero, h1]
theorem whole_more {p r : List UInt8} {R : TR} {last : UInt8} (h : WholeT p R) (hl : p.getLast? = some last) (hr : Apart last r) : tokR (p ++ r) = R := by
  obtain ⟨⟨c, t, rfl, hw, h37⟩, h1, h2, h3, h4⟩ := h
  subst h1
  exact tok_more c t r last hl h2 h4 hr

/-- The space between a last byte and a first one, where it is wanted. -/
def sepJ : Option UInt8 → UInt8 → List UInt8
  | none, _ => []
  | some c, d => if runOnS c d then [32] else []
/-- What a part adds behind a last byte. -/
def addJ (o : Option UInt8) : List UInt8 → List UInt8
  | [] => []
  | d :: t => sepJ o d ++ d :: t
def lastJ (o : Option UInt8) (p : List UInt8) : Option UInt8 := match p.getLast? with | none => o | some c => some c
def joinK : Option UInt8 → List (List UInt8) → List UInt8
  | _, [] => []
  | o, p :: ps => addJ o p ++ joinK (lastJ o p) ps
def joinL (ps : List (List UInt8)) : List UInt8 := joinK none ps
theorem last_append (o : Option UInt8) (p q : List UInt8) : lastJ o (p ++ q) = lastJ (lastJ o p) q := by
  unfold lastJ
  rw [List.getLast?_append]
  cases q.getLast? <;> simp
theorem last_add (o : Option UInt8) (p : List UInt8) : lastJ o (addJ o p) = lastJ o p := by
  cases p with
  | nil => rfl
  | cons d t =>
    show lastJ o (sepJ o d ++ d :: t) = _
    rw [last_append]
    unfold lastJ
    cases h : (d :: t).getLast? with
    | none => simp at h
    | some c => rfl
theorem join_snoc (ps : List (List UInt8)) (p : List UInt8) : ∀ o, joinK o (ps ++ [p]) = joinK o ps ++ addJ (lastJ o (joinK o ps)) p := by
  induction ps with
  | nil => intro o; show addJ o p ++ [] = [] ++ addJ (lastJ o []) p; rw [List.append_nil, List.nil_append]; rfl
  | cons q ps ih =>
    intro o
    show addJ o q ++ joinK (lastJ o q) (ps ++ [p]) = (addJ o q ++ joinK (lastJ o q) ps) ++ addJ (lastJ o (addJ o q ++ joinK (lastJ o q) ps)) p
    rw [ih, last_append, last_add, List.append_assoc]
theorem joinL_snoc (ps : List (List UInt8)) (p : List UInt8) : joinL (ps ++ [p]) = joinL ps ++ addJ (joinL ps).getLast? p := by
  unfold joinL
  rw [join_snoc]
  congr 2
  unfold lastJ
  split <;> simp_all
theorem sep_short (o : Option UInt8) (d : UInt8) : (sepJ o d).length ≤ 1 := by
  unfold sepJ
  split
  · simp
  · split <;> simp
theorem add_len (o : Option UInt8) (p : List UInt8) : (addJ o p).length ≤ p.length + 1 := by
  cases p with
  | nil => simp [addJ]
  | cons d t => have := sep_short o d; simp [addJ]; omega
theorem join_apart (c : UInt8) (ps : List (List UInt8)) : Apart c (joinK (some c) ps) := by
  induction ps with
  | nil => intro d u e; cases e
  | cons p ps ih =>
    cases p with
    | nil => exact ih
    | cons x t =>
      intro d u e
      have e : sepJ (some c) x ++ x :: t ++ joinK (lastJ (some c) (x :: t)) ps = d :: u := e
      unfold sepJ at e
      by_cases h : runOnS c x = true
      · simp [h] at e
        rw [← e.1]
        unfold runOnS
        rw [show regularS 32 = false by decide, Bool.and_false]
      · simp [h] at e
        rw [← e.1]
        simpa using h

/-- The tokens of parts that are joined behind a bytes, the last of them o. -/
def toksJ : Nat → Option UInt8 → List (List UInt8) → List Tk
  | _, _, [] => []
  | a, o, p :: ps => tkOf (a + ((addJ o p).length - p.length)) (tokR p) :: toksJ (a + (addJ o p).length) (lastJ o p) ps
theorem upto_join (ps : List (List UInt8)) : ∀ (n : Nat) (o : Option UInt8) (pre : List UInt8), (∀ p ∈ ps, ∃ R, WholeT p R) → ps.length < n → uptoN n (pre ++ joinK o ps) pre.length = (toksJ pre.length o ps, 0, 0) := by
  induction ps with
  | nil =>
    intro n o pre _ hn
    obtain ⟨n, rfl⟩ : ∃ m, n = m + 1 := ⟨n - 1, by simp at hn; omega⟩
    have hi : (pre ++ joinK o []).length ≤ nextI (pre ++ joinK o []) pre.length := by
      show (pre ++ []).length ≤ _
      unfold nextI
      simp
    have e := next_end hi
    rw [upto_end (by rw [e]) (by rw [e])]
    rfl
  | cons p ps ih =>
    intro n o pre hw hn
    obtain ⟨n, rfl⟩ : ∃ m, n = m + 1 := ⟨n - 1, by simp at hn; omega⟩
    obtain ⟨R, hR⟩ := hw p (by simp)
    obtain ⟨⟨c, t, rfl, hwc, h37⟩, h1, h2, h3, h4⟩ := id hR
    obtain ⟨last, hlast⟩ : ∃ x, (c :: t).getLast? = some x := ⟨_, List.getLast?_eq_some_getLast (by simp)⟩
    have hlj : lastJ o (c :: t) = some last := by unfold lastJ; rw [hlast]
    have hd : (pre ++ joinK o ((c :: t) :: ps)).drop pre.length = sepJ o c ++ (c :: t ++ joinK (some last) ps) := by
      rw [List.drop_left]
      show addJ o (c :: t) ++ joinK (lastJ o (c :: t)) ps = _
      rw [hlj]
      simp [addJ]
    have hsk : skipN false (sepJ o c ++ (c :: t ++ joinK (some last) ps)) = (sepJ o c).length := by
      have h0 : skipN false (c :: t ++ joinK (some last) ps) = 0 := skipN_stop _ hwc h37
      unfold sepJ
      split
      · exact h0
      · split
        · show skipN false (32 :: (c :: t ++ joinK (some last) ps)) = 1
          rw [skipN_white _ (by decide), h0]
        · exact h0
    have hi : nextI (pre ++ joinK o ((c :: t) :: ps)) pre.length = pre.length + (sepJ o c).length := by
      unfold nextI
      rw [hd, hsk]
    have hr : nextR (pre ++ joinK o ((c :: t) :: ps)) pre.length = R := by
      unfold nextR
      rw [hi, ← List.drop_drop, hd, List.drop_left]
      exact whole_more hR hlast (join_apart last ps)
    rw [upto_more (by rw [hr]; exact h2) (by rw [hr]; exact h3), hi, hr]
    have ih := ih n (some last) (pre ++ addJ o (c :: t)) (fun q hq => hw q (by simp [hq])) (by simp at hn; omega)
    have e1 : pre ++ joinK o ((c :: t) :: ps) = pre ++ addJ o (c :: t) ++ joinK (some last) ps := by
      show pre ++ (addJ o (c :: t) ++ joinK (lastJ o (c :: t)) ps) = _
      rw [hlj, List.append_assoc]
    have e2 : pre.length + (sepJ o c).length + R.len = (pre ++ addJ o (c :: t)).length := by rw [h4]; simp [addJ]; omega
    rw [e1, e2, ih]
    have e3 : pre.length + ((addJ o (c :: t)).length - (c :: t).length) = pre.length + (sepJ o c).length := by simp [addJ]
    unfold consT
    rw [if_pos rfl]
    show (_, _) = (tkOf (pre.length + ((addJ o (c :: t)).length - (c :: t).length)) (tokR (c :: t)) :: toksJ (pre.length + (addJ o (c :: t)).length) (lastJ o (c :: t)) ps, _)
    rw [e3, h1, hlj, List.length_append]
theorem upto_joined (ps : List (List UInt8)) (n : Nat) (hw : ∀ p ∈ ps, ∃ R, WholeT p R) (hn : ps.length < n) : uptoN n (joinL ps) 0 = (toksJ 0 none ps, 0, 0) := upto_join ps n none [] hw hn
end Go.Proofs.YtdpbpdikgcepbaaGreatDoor.Lex
namespace Go.Proofs.YtdpbpdikgcepbaaGreatDoor.Lex
open Go.Proofs.YtdpbpdikgcepbaaGreatDoor.Oct Go.Proofs.YtdpbpdikgcepbaaGreatDoor.Fix

/-! ### Runs of regular bytes. -/
theorem reg_plain {c : UInt8} (h : regularS c = true) : whiteS c = false ∧ c ≠ 37 ∧ c ≠ 91 ∧ c ≠ 93 ∧ c ≠ 123 ∧ c ≠ 125 ∧ c ≠ 60 ∧ c ≠ 62 ∧ c ≠ 41 ∧ c ≠ 40 ∧ c ≠ 47 := by
  have := all_bytes (fun c => !regularS c || (!whiteS c && decide (c ≠ 37 ∧ c ≠ 91 ∧ c ≠ 93 ∧ c ≠ 123 ∧ c ≠ 125 ∧ c ≠ 60 ∧ c ≠ 62 ∧ c ≠ 41 ∧ c ≠ 40 ∧ c ≠ 47))) (by decide +kernel) c
  rw [h] at this
  simpa [and_assoc] using this
theorem run_whole {u : List UInt8} (hu : ∀ c ∈ u, regularS c = true) : runL u = u := run_all (List.all_eq_true.2 hu)
theorem whole_run {u : List UInt8} {R : TR} (hne : u ≠ []) (hu : ∀ c ∈ u, regularS c = true) (hR : wordU u = R) (he : R.err = 0) : WholeT u R := by
  obtain ⟨c, t, rfl⟩ := List.exists_cons_of_ne_nil hne
  obtain ⟨w0, w1, w2, w3, w4, w5, w6, w7, w8, w9, w10⟩ := reg_plain (hu c (by simp))
  subst hR
  refine ⟨⟨c, t, rfl, w0, w1⟩, ?_, he, word_kind _ he, word_len _ he⟩
  rw [tokR, if_neg w2, if_neg w3, if_neg w4, if_neg w5, if_neg w6, if_neg w7, if_neg w8, if_neg w9, if_neg w10, run_whole hu]

/-! ### Numbers. -/
theorem sign_reg (m : Bool) (d : List UInt8) (hd : d.all isDig = true) : ∀ c ∈ signL m ++ d, regularS c = true := by
  intro c hc
  rcases List.mem_append.1 hc with hc | hc
  · cases m
    · cases hc
    · rw [List.mem_singleton.1 hc]; decide
  · exact dig_reg (List.all_eq_true.1 hd c hc)
theorem whole_num (m : Bool) (d : List UInt8) (hd : d.all isDig = true) (hne : d ≠ []) (hv : valL 0 d ≤ 2147483647) : WholeT (signL m ++ d) ⟨0, 1, (signL m ++ d).length, if m then -(valL 0 d) else valL 0 d, []⟩ := by
  refine whole_run (by simp [hne]) (sign_reg m d hd) ?_ rfl
  obtain ⟨b1, b2⟩ := body_num m d hd
  have hI : intL (signL m ++ d) = true := by
    unfold intL
    rw [b1, hd]
    cases d with
    | nil => exact absurd rfl hne
    | cons => rfl
  unfold wordU
  rw [if_pos hI, b1, if_neg (by omega)]
  unfold intN
  rw [b2 hne, b1]
theorem itoa_sign (n : Int) : Lib.itoa n = signL (decide (n < 0)) ++ Lib.decDigits n.natAbs := by
  unfold Lib.itoa
  by_cases h : n < 0
  · rw [if_pos h, decide_eq_true h]; first | rfl | (rw [show (-n).toNat = n.natAbs by omega]; rfl)
  · rw [if_neg h, decide_eq_false h]; first | rfl | (rw [show n.toNat = n.natAbs by omega]; rfl)
theorem int_whole (n : Int) (h1 : -2147483647 ≤ n) (h2 : n ≤ 2147483647) : WholeT (Lib.itoa n) ⟨0, 1, (Lib.itoa n).length, n, []⟩ := by
  rw [itoa_sign]
  have := whole_num (decide (n < 0)) (Lib.decDigits n.natAbs) (dec_dig _) (dec_ne _) (by rw [dec_val]; omega)
  rw [dec_val] at this
  by_cases h : n < 0
  · rw [decide_eq_true h] at this ⊢
    rw [if_pos rfl, show -((n.natAbs : Nat) : Int) = n by omega] at this
    exact this
  · rw [decide_eq_false h] at this ⊢
    rw [if_neg (by decide), show ((n.natAbs : Nat) : Int) = n by omega] at this
    exact this
theorem text_reg (n : Int) (h1 : -1073741824 ≤ n) (h2 : n ≤ 1073741824) : ∀ c ∈ textL n, regularS c = true := by
  rw [textL_in n h1 h2]
  intro c hc
  have hd := List.all_eq_true.1 (dec_dig (n.natAbs / 10000))
  have hf := List.all_eq_true.1 (frac_dig (n.natAbs % 10000) (by omega))
  simp only [List.mem_append, List.mem_singleton] at hc
  rcases hc with ((hc | hc) | hc) | hc
  · by_cases h : n < 0
    · rw [if_pos h] at hc; rw [List.mem_singleton.1 hc]; decide
    · rw [if_neg h] at hc; cases hc
  · exact dig_reg (hd c hc)
  · rw [hc]; decide
  · exact dig_reg (hf c hc)
theorem text_point (n : Int) (h1 : -1073741824 ≤ n) (h2 : n ≤ 1073741824) : (46 : UInt8) ∈ textL n := by rw [textL_in n h1 h2]; simp
theorem text_not_int (n : Int) (h1 : -1073741824 ≤ n) (h2 : n ≤ 1073741824) : intL (textL n) = false := by
  have hm : (46 : UInt8) ∈ bodyL (textL n) := by
    have := text_point n h1 h2
    cases ht : textL n with
    | nil => rw [ht] at this; cases this
    | cons c t =>
      rw [ht] at this
      unfold bodyL
      simp only
      by_cases h45 : c = 45
      · rw [if_pos h45]
        rcases List.mem_cons.1 this with e | e
        · rw [← e] at h45; cases h45
        · exact e
      · rw [if_neg h45]
        by_cases h43 : c = 43
        · rw [if_pos h43]
          rcases List.mem_cons.1 this with e | e
          · rw [← e] at h43; cases h43
          · exact e
        · rw [if_neg h43]; exact this
  unfold intL
  rw [Bool.and_eq_false_iff]
  left
  cases ha : (bodyL (textL n)).all isDig with
  | false => rfl
  | true => have := List.all_eq_true.1 ha 46 hm; cases this
theorem real_whole (n : Int) (h1 : -1073741824 ≤ n) (h2 : n ≤ 1073741824) : WholeT (textL n) ⟨0, 2, (textL n).length, n, []⟩ := by
  have hp := text_point n h1 h2
  refine whole_run (List.ne_nil_of_mem hp) (text_reg n h1 h2) ?_ rfl
  have hb := text_back n 0 (by omega) h1 h2
  rw [List.replicate_zero, List.append_nil] at hb
  unfold wordU
  rw [text_not_int n h1 h2, if_neg (by decide), hb.2, hb.1]
  have : (textL n).contains 46 = true := by simpa using hp
  rw [this]
  rfl

/-! ### Strings. -/
/-- What stands for one byte in a literal string. -/
def strC (c : UInt8) : List UInt8 := if c = 40 ∨ c = 41 ∨ c = 92 then [92, c] else if c.toNat < 32 ∨ 126 < c.toNat then oct3 c else [c]
def strB (l : List UInt8) : List UInt8 := l.flatMap strC
def strL (l : List UInt8) : List UInt8 := 40 :: (strB l ++ [41])
theorem strB_cons (c : UInt8) (l : List UInt8) : strB (c :: l) = strC c ++ strB l := by unfold strB; rw [List.flatMap_cons]
theorem strB_snoc (l : List UInt8) (c : UInt8) : strB (l ++ [c]) = strB l ++ strC c := by unfold strB; rw [List.flatMap_append]; simp
theorem strC_len (c : UInt8) : 1 ≤ (strC c).length ∧ (strC c).length ≤ 4 := by
  unfold strC
  split
  · simp
  · split
    · simp [oct3]
    · simp
theorem strB_len (l : List UInt8) : l.length ≤ (strB l).length ∧ (strB l).length ≤ 4 * l.length := by
  induction l with
  | nil => exact ⟨Nat.le_refl _, Nat.le_refl _⟩
  | cons c l ih => rw [strB_cons]; have := strC_len c; simp; omega
theorem esc_self {c : UInt8} (t : List UInt8) (h : c = 40 ∨ c = 41 ∨ c = 92) : escL (c :: t) = ([c], 1) := by
  rcases h with rfl | rfl | rfl <;> rfl
theorem lit_str (l t : List UInt8) : ∀ f, l.length + 1 ≤ f → litL f 1 (strB l ++ 41 :: t) = some (l, (strB l).length + 1) := by
  induction l with
  | nil =>
    intro f hf
    obtain ⟨f, rfl⟩ : ∃ g, f = g + 1 := ⟨f - 1, by simp at hf; omega⟩
    exact lit_done rfl
  | cons c l ih =>
    intro f hf
    obtain ⟨f, rfl⟩ : ∃ g, f = g + 1 := ⟨f - 1, by omega⟩
    have ih := ih f (by simp at hf; omega)
    rw [strB_cons, List.append_assoc, List.length_append]
    unfold strC
    by_cases h1 : c = 40 ∨ c = 41 ∨ c = 92
    · rw [if_pos h1]
      show litL (f + 1) 1 (92 :: (c :: (strB l ++ 41 :: t))) = _
      rw [lit_back rfl (by simp), esc_self _ h1]
      simp only [List.drop_succ_cons, List.drop_zero]
      rw [ih]
      simp [pre]; omega
    · rw [if_neg h1]
      by_cases h2 : c.toNat < 32 ∨ 126 < c.toNat
      · rw [if_pos h2]
        show litL (f + 1) 1 (92 :: (UInt8.ofNat (48 + c.toNat / 64) :: UInt8.ofNat (48 + c.toNat / 8 % 8) :: UInt8.ofNat (48 + c.toNat % 8) :: (strB l ++ 41 :: t))) = _
        rw [lit_back rfl (by simp), esc_oct]
        simp only [List.drop_succ_cons, List.drop_zero]
        rw [ih]
        simp [pre, oct3]; omega
      · rw [if_neg h2]
        show litL (f + 1) 1 (c :: (strB l ++ 41 :: t)) = _
        rw [lit_plain (fun e => h1 (.inr (.inr e))) (by rintro (rfl | rfl) <;> exact h2 (.inl (by decide))) (fun e => h1 (.inr (.inl e))) (fun e => h1 (.inl e)), ih]
        simp [pre]; omega
theorem str_len (l : List UInt8) : (strL l).length = (strB l).length + 2 := by simp [strL]
theorem str_tok (l t : List UInt8) (hl : l.length ≤ 32767) : tokR (40 :: (strB l ++ 41 :: t)) = ⟨0, 3, (strL l).length, 0, l⟩ := by
  rw [tokR, if_neg (by decide), if_neg (by decide), if_neg (by decide), if_neg (by decide), if_neg (by decide), if_neg (by decide), if_neg (by decide), if_pos rfl]
  unfold litR
  rw [lit_str l t _ (by have := strB_len l; simp; omega)]
  simp only
  rw [if_neg (by omega)]
  simp [str_len]; omega
theorem str_whole (l : List UInt8) (hl : l.length ≤ 32767) : WholeT (strL l) ⟨0, 3, (strL l).length, 0, l⟩ :=
  ⟨⟨40, _, rfl, by decide, by decide⟩, str_tok l [] hl, rfl, by simp, rfl⟩
theorem str_inj {l m : List UInt8} (h : strL l = strL m) : l = m := by
  have h1 := lit_str l [] (l.length + m.length + 1) (by omega)
  have h2 := lit_str m [] (l.length + m.length + 1) (by omega)
  have e : strB l ++ [41] = strB m ++ [41] := by unfold strL at h; exact (List.cons.inj h).2
  rw [e, h2] at h1
  exact (congrArg Prod.fst (Option.some.inj h1)).symm
def hexT (l : List UInt8) : List UInt8 := 60 :: (hexS l ++ [62])
theorem hexT_whole (l : List UInt8) (hl : l.length ≤ 32767) : WholeT (hexT l) ⟨0, 3, (hexT l).length, 0, l⟩ := by
  have hw : wideL false (hexS l) = hexS l := by unfold wideL sepL; simp
  have h := next_hex false l [] hl
  rw [hw] at h
  have hlen : (hexT l).length = (hexS l).length + 2 := by simp [hexT]
  have hi : nextI (hexT l) 0 = 0 := h.1
  have hr : nextR (hexT l) 0 = ⟨0, 3, (hexT l).length, 0, l⟩ := by rw [hlen]; exact h.2
  have := whole_of (p := hexT l) (by rw [hr]) (by rw [hr]; simp) hi (by rw [hr])
  rw [hr] at this
  exact this

/-! ### Names. -/
def nameC (c : UInt8) : List UInt8 := if c.toNat < 33 ∨ 126 < c.toNat ∨ c = 35 ∨ delimS c = true then 35 :: hexS [c] else [c]
def nameB (l : List UInt8) : List UInt8 := l.flatMap nameC
def nameL (l : List UInt8) : List UInt8 := 47 :: nameB l
theorem nameB_cons (c : UInt8) (l : List UInt8) : nameB (c :: l) = nameC c ++ nameB l := by unfold nameB; rw [List.flatMap_cons]
theorem nameB_snoc (l : List UInt8) (c : UInt8) : nameB (l ++ [c]) = nameB l ++ nameC c := by unfold nameB; rw [List.flatMap_append]; simp
theorem nameC_len (c : UInt8) : (nameC c).length ≤ 3 := by
  unfold nameC
  split
  · simp [hexS]
  · simp
theorem nameB_len (l : List UInt8) : (nameB l).length ≤ 3 * l.length := by
  induction l with
  | nil => exact Nat.le_refl _
  | cons c l ih => rw [nameB_cons]; have := nameC_len c; simp; omega
theorem nameC_reg (c : UInt8) : ∀ d ∈ nameC c, regularS d = true := by
  have := all_bytes (fun c => (nameC c).all regularS) (by decide +kernel) c
  exact List.all_eq_true.1 this
theorem nameB_reg (l : List UInt8) : ∀ d ∈ nameB l, regularS d = true := by
  intro d hd
  unfold nameB at hd
  obtain ⟨c, _, hc⟩ := List.mem_flatMap.1 hd
  exact nameC_reg c d hc
theorem dec_name (l : List UInt8) (h : (0 : UInt8) ∉ l) : decL (nameB l) = some l := by
  induction l with
  | nil => exact decL_nil
  | cons c l ih =>
    have ih := ih fun hc => h (by simp [hc])
    have hc : c ≠ 0 := fun hc => h (by simp [hc])
    rw [nameB_cons]
    unfold nameC
    by_cases h1 : c.toNat < 33 ∨ 126 < c.toNat ∨ c = 35 ∨ delimS c = true
    · rw [if_pos h1]
      obtain ⟨d1, d2, d3⟩ := hexd_digit c
      show decL (35 :: hexd (c.toNat / 16) :: hexd (c.toNat % 16) :: nameB l) = _
      have hz : c.toNat ≠ 0 := fun e => hc (UInt8.toNat_inj.1 e)
      rw [decL_hash _ ⟨by rw [d1]; omega, by rw [d2]; omega, by rw [d1, d2]; omega⟩, ih]
      show some (pairByte _ _ :: l) = _
      unfold pairByte
      rw [d3]
    · rw [if_neg h1]
      show decL (c :: nameB l) = _
      rw [decL_plain _ (fun e => h1 (.inr (.inr (.inl e)))), ih]
      rfl
theorem name_whole (l : List UInt8) (hl : l.length ≤ 127) (h : (0 : UInt8) ∉ l) : WholeT (nameL l) ⟨0, 4, (nameL l).length, 0, l⟩ := by
  refine ⟨⟨47, _, rfl, by decide, by decide⟩, ?_, rfl, by simp, rfl⟩
  unfold nameL
  rw [tokR, if_neg (by decide), if_neg (by decide), if_neg (by decide), if_neg (by decide), if_neg (by decide), if_neg (by decide), if_neg (by decide), if_neg (by decide), if_pos rfl]
  unfold nameR
  rw [run_whole (nameB_reg l), dec_name l h]
  simp only
  rw [if_neg (by omega), List.length_cons, Nat.add_comm]
theorem name_inj {l m : List UInt8} (hl : (0 : UInt8) ∉ l) (hm : (0 : UInt8) ∉ m) (h : nameL l = nameL m) : l = m := by
  have e : nameB l = nameB m := (List.cons.inj h).2
  have h1 := dec_name l hl
  rw [e, dec_name m hm] at h1
  exact (Option.some.inj h1).symm
theorem obj_whole : WholeT [111, 98, 106] ⟨0, 5, 3, 0, [111, 98, 106]⟩ := whole_run (by simp) (by decide) (by kernel_rfl) rfl

/-! ### Equal texts, equal values. -/
theorem whole_inj {p : List UInt8} {R S : TR} (h1 : WholeT p R) (h2 : WholeT p S) : R = S := h1.2.1.symm.trans h2.2.1
theorem itoa_inj {n m : Int} (h : Lib.itoa n = Lib.itoa m) (n1 : -2147483647 ≤ n) (n2 : n ≤ 2147483647) (m1 : -2147483647 ≤ m) (m2 : m ≤ 2147483647) : n = m := by
  have h1 := int_whole n n1 n2
  rw [h] at h1
  exact congrArg TR.num (whole_inj h1 (int_whole m m1 m2))
theorem textL_inj {n m : Int} (h : textL n = textL m) (n1 : -1073741824 ≤ n) (n2 : n ≤ 1073741824) (m1 : -1073741824 ≤ m) (m2 : m ≤ 1073741824) : n = m := by
  have h1 := real_whole n n1 n2
  rw [h] at h1
  exact congrArg TR.num (whole_inj h1 (real_whole m m1 m2))
theorem itoa_text {n m : Int} (h : Lib.itoa n = textL m) (n1 : -2147483647 ≤ n) (n2 : n ≤ 2147483647) (m1 : -1073741824 ≤ m) (m2 : m ≤ 1073741824) : False := by
  have h1 := int_whole n n1 n2
  rw [h] at h1
  have := congrArg TR.kind (whole_inj h1 (real_whole m m1 m2))
  exact absurd (show (1 : Int) = 2 from this) (by decide)

/-! ### Padding. -/
def padL (n : Int) (w : Int) : List UInt8 := if n < 0 ∨ w < 1 ∨ 20 < w then [] else if w < (Lib.decDigits n.toNat).length then [] else List.replicate (w.toNat - (Lib.decDigits n.toNat).length) 48 ++ Lib.decDigits n.toNat
end Go.Proofs.YtdpbpdikgcepbaaGreatDoor.Lex
namespace Go.Proofs.YtdpbpdikgcepbaaGreatDoor
open Go.RowKit Oct Fix Lex

theorem ret_sn {a b : ByteArray} {c d : Int} (h1 : a.data.toList = b.data.toList) (h2 : c = d) : Ending.returned (.tuple #[.string a, .int .i64 c]) = .returned (.tuple #[.string b, .int .i64 d]) := by rw [bytes_eq h1, h2]
def bOf (l : List UInt8) : ByteArray := ⟨l.toArray⟩
theorem bOf_list (l : List UInt8) : (bOf l).data.toList = l := rfl
theorem bOf_size (l : List UInt8) : (bOf l).size = l.length := rfl

/-! ### Int. -/
def pIntX (n : Int) : List UInt8 := if n < -2147483647 ∨ 2147483647 < n then [] else Lib.itoa n
def pIntE (n : Int) : Int := if n < -2147483647 ∨ 2147483647 < n then 2 else 0
theorem pInt_out {n : Int} (h : n < -2147483647 ∨ 2147483647 < n) : pIntX n = [] ∧ pIntE n = 2 := by unfold pIntX pIntE; rw [if_pos h, if_pos h]; exact ⟨rfl, rfl⟩
theorem pInt_in {n : Int} (h : ¬ (n < -2147483647 ∨ 2147483647 < n)) : pIntX n = Lib.itoa n ∧ pIntE n = 0 := by unfold pIntX pIntE; rw [if_neg h, if_neg h]; exact ⟨rfl, rfl⟩
set_option maxHeartbeats 800000 in
theorem plnInt_any (n : Int) (w : World) (ht : Tab10 w) :
    Calls Tryz.prog 28 #[.int .i64 n] w fun e w' => e = .returned (.tuple #[.string (bOf (pIntX n)), .int .i64 (pIntE n)]) ∧ Below w.heap.size w w' := by
  have HT := Lib.hid ht
  clear ht
  rcases (by omega : n < -2147483647 ∨ 2147483647 < n ∨ (-2147483647 ≤ n ∧ n ≤ 2147483647)) with h | h | ⟨h1, h2⟩
  · obtain ⟨e1, e2⟩ := pInt_out (n := n) (.inl h)
    rw [e1, e2]
    clear e1 e2
    go_enter Tryz.func28, Tryz.ntmps28
    go_wp2_with fail
    go_ret2
    exact ⟨rfl, Below.refl _ _⟩
  · obtain ⟨e1, e2⟩ := pInt_out (n := n) (.inr h)
    rw [e1, e2]
    clear e1 e2
    have h' : ¬ n < -2147483647 := by omega
    go_enter Tryz.func28, Tryz.ntmps28
    go_wp2_with fail
    go_ret2
    exact ⟨rfl, Below.refl _ _⟩
  · obtain ⟨e1, e2⟩ := pInt_in (n := n) (by omega)
    rw [e1, e2]
    clear e1 e2
    have h3 : ¬ n < -2147483647 := by omega
    have h4 : ¬ 2147483647 < n := by omega
    go_enter Tryz.func28, Tryz.ntmps28
    go_wp2_with fail
    refine (fmt_any n _ (by omega) (by omega) HT.out).mono ?_
    rintro e w1 ⟨rfl, hb1⟩
    go_wp2_with fail
    go_ret2
    exact ⟨rfl, hb1⟩

/-! ### Real. -/
def pRealE (n : Int) : Int := if n < -1073741824 ∨ 1073741824 < n then 2 else 0
theorem pReal_out {n : Int} (h : n < -1073741824 ∨ 1073741824 < n) : textL n = [] ∧ pRealE n = 2 := by
  unfold pRealE textL
  rw [if_pos h]
  refine ⟨?_, rfl⟩
  rcases h with h | h
  · rw [if_pos h]
  · rw [if_neg (by omega), if_pos h]
theorem pReal_in {n : Int} (h : ¬ (n < -1073741824 ∨ 1073741824 < n)) : pRealE n = 0 := by unfold pRealE; rw [if_neg h]
/-! ### Hex. -/
def longE (n : Nat) : Int := if 32767 < n then 5 else 0
def hexX (s : ByteArray) : List UInt8 := if 32767 < s.size then [] else hexT s.data.toList
theorem pHex_cat (s : ByteArray) : ((⟨#[60]⟩ : ByteArray) ++ hexB s ++ ⟨#[62]⟩).data.toList = hexT s.data.toList := by
  simp [hexT, hexB]
end Go.Proofs.YtdpbpdikgcepbaaGreatDoor
namespace Go.Proofs.YtdpbpdikgcepbaaGreatDoor
open Go.RowKit Oct Fix Lex

/-- A row of bytes of the caller's own. -/
def RowOut (base : Nat) (l : List UInt8) (w : World) (e : Ending) (w' : World) : Prop :=
  ∃ A C, e = .returned (.slice A l.length C) ∧ w'.ownsRow base 5 1 (.slice A l.length C) l.length (cellsOf l) ∧ Below base w w'
theorem RowOut.mk {base : Nat} {l : List UInt8} {w w' : World} {v : Value} {n : Nat} {xs : List Value} (hn : n = l.length) (hx : xs = cellsOf l)
    (ho : w'.ownsRow base 5 1 v n xs) (hb : Below base w w') : RowOut base l w (.returned v) w' := by
  subst hn hx
  obtain ⟨A, C, rfl⟩ := own_form ho
  exact ⟨A, C, rfl, ho, hb⟩

theorem oct_cells (c : UInt8) : cellsOf (oct3 c) = [.int .u8 92, .int .u8 (48 + (c.toNat : Int) / 64), .int .u8 (48 + (c.toNat : Int) / 8 % 8), .int .u8 (48 + (c.toNat : Int) % 8)] := by
  have h := c.toNat_lt
  unfold oct3 cellsOf
  simp only [List.map_cons, List.map_nil, UInt8.toNat_ofNat']
  have e1 : (((48 + c.toNat / 64) % 2 ^ 8 : Nat) : Int) = 48 + (c.toNat : Int) / 64 := by omega
  have e2 : (((48 + c.toNat / 8 % 8) % 2 ^ 8 : Nat) : Int) = 48 + (c.toNat : Int) / 8 % 8 := by omega
  have e3 : (((48 + c.toNat % 8) % 2 ^ 8 : Nat) : Int) = 48 + (c.toNat : Int) % 8 := by omega
  rw [e1, e2, e3]
  rfl
theorem and7 (x : Nat) (h : x < 256) : bits .and .u8 (x : Int) 7 = (x : Int) % 8 := by
  have h := u8_and_nat x 7 h (by decide)
  have e : x &&& 7 = x % 8 := Nat.and_two_pow_sub_one_eq_mod x 3
  rw [e] at h
  rw [show ((7 : Nat) : Int) = 7 from rfl] at h
  rw [h]
  omega

section
variable (c : UInt8) (w : World) (l : List UInt8) (A : Option Addr) (C base : Nat)
end

/-- The loop that calls a function value for each byte. G: what is put for a byte; at most four bytes. -/
theorem flat_take (G : UInt8 → List UInt8) (s : ByteArray) (k : Nat) (h : k < s.size) : (s.data.toList.take (k + 1)).flatMap G = (s.data.toList.take k).flatMap G ++ G s[k] := by
  have e : s.data.toList.take (k + 1) = s.data.toList.take k ++ [s[k]] := by rw [List.take_succ_eq_append_getElem (by simpa using h)]; rfl
  rw [e, List.flatMap_append]
  simp
theorem flat_len (G : UInt8 → List UInt8) (hG : ∀ c, (G c).length ≤ 4) (l : List UInt8) : (l.flatMap G).length ≤ 4 * l.length := by
  induction l with
  | nil => exact Nat.le_refl _
  | cons c l ih => have := hG c; rw [List.flatMap_cons, List.length_append, List.length_cons]; omega
def strX (s : ByteArray) : List UInt8 := if 32767 < s.size then [] else strL s.data.toList
theorem strC_le (c : UInt8) : (strC c).length ≤ 4 := (strC_len c).2
end Go.Proofs.YtdpbpdikgcepbaaGreatDoor
