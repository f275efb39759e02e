/-
  Lemmas and walks, joined: LexM2, LexM3, LexM4, LexM5.
-/
import Derived.Test.YtdpbpdikgcepbaaGreatDoorHz06
namespace Go.Proofs.YtdpbpdikgcepbaaGreatDoor.Lex
open Go.Proofs.YtdpbpdikgcepbaaGreatDoor.Oct Go.Proofs.YtdpbpdikgcepbaaGreatDoor.Fix

theorem run_take (l : List UInt8) : l.take (runL l).length = runL l := (List.prefix_iff_eq_take.1 (List.takeWhile_prefix (l := l) regularS)).symm
theorem run_len (l : List UInt8) : (runL l).length ≤ l.length := (List.takeWhile_prefix (l := l) regularS).length_le
theorem run_idem (l : List UInt8) : runL (runL l) = runL l := by
  unfold runL
  induction l with
  | nil => rfl
  | cons c t ih =>
    rw [List.takeWhile_cons]
    by_cases h : regularS c = true
    · rw [if_pos h, List.takeWhile_cons, if_pos h, ih]
    · rw [if_neg h]; rfl

theorem hex_take (l : List UInt8) (h : (hexL l).1 = 0) : hexL (l.take (hexL l).2.2) = hexL l ∧ (hexL l).2.2 ≤ l.length := by
  induction l with
  | nil => rw [hexL] at h; cases h
  | cons c t ih =>
    by_cases h1 : c = 62
    · subst h1
      rw [hex_cons_end]
      exact ⟨by simp [hexL], by simp⟩
    · by_cases h2 : 0 ≤ digitS c
      · rw [hex_cons_dig t h1 h2] at h ⊢
        obtain ⟨e1, e2⟩ := ih h
        show hexL ((c :: t).take (1 + (hexL t).2.2)) = _ ∧ 1 + (hexL t).2.2 ≤ _
        rw [Nat.add_comm 1, List.take_succ_cons, hex_cons_dig _ h1 h2, e1]
        exact ⟨by rw [Nat.add_comm 1], by simpa using e2⟩
      · by_cases h3 : whiteS c = true
        · rw [hex_cons_white t h1 h2 h3] at h ⊢
          obtain ⟨e1, e2⟩ := ih h
          show hexL ((c :: t).take (1 + (hexL t).2.2)) = _ ∧ 1 + (hexL t).2.2 ≤ _
          rw [Nat.add_comm 1, List.take_succ_cons, hex_cons_white _ h1 h2 h3, e1]
          exact ⟨by rw [Nat.add_comm 1], by simpa using e2⟩
        · rw [hex_cons_bad t h1 h2 h3] at h; cases h

theorem line_take {c : UInt8} (t : List UInt8) (p : Nat) (h : c = 13 ∨ c = 10) (hp : lineN (c :: t) ≤ p) : lineN ((c :: t).take p) = lineN (c :: t) := by
  have hpos := lineN_pos c t
  obtain ⟨q, rfl⟩ : ∃ q, p = q + 1 := ⟨p - 1, by omega⟩
  rw [List.take_succ_cons]
  rcases t with _ | ⟨b, t⟩
  · simp
  · rcases q with _ | q
    · rw [List.take_zero]
      have : lineN (c :: b :: t) = 1 := by omega
      rw [this]; rfl
    · rw [List.take_succ_cons]
      unfold lineN
      by_cases h1 : c = 13 ∧ b = 10
      · rw [if_pos h1, if_pos h1]
      · rw [if_neg h1, if_neg h1, if_pos (by rcases h with h | h <;> simp [h]), if_pos (by rcases h with h | h <;> simp [h])]
theorem oct_take (j m : Nat) (l : List UInt8) (p : Nat) (hp : (octN j m l).2 ≤ p) : octN j m (l.take p) = octN j m l := by
  induction j generalizing m l p with
  | zero => simp [octN]
  | succ j ih =>
    rcases l with _ | ⟨c, t⟩
    · simp
    · by_cases hc : octD c = true
      · rw [octN, if_pos hc] at hp
        obtain ⟨q, rfl⟩ : ∃ q, p = q + 1 := ⟨p - 1, by omega⟩
        rw [List.take_succ_cons, octN, if_pos hc, octN, if_pos hc, ih _ _ q (by omega)]
      · rcases p with _ | p
        · rw [List.take_zero]; simp [octN, hc]
        · rw [List.take_succ_cons]; simp [octN, hc]
theorem oct_len (j m : Nat) (l : List UInt8) : (octN j m l).2 ≤ l.length := by
  induction j generalizing m l with
  | zero => simp [octN]
  | succ j ih =>
    rcases l with _ | ⟨c, t⟩
    · simp [octN]
    · by_cases hc : octD c = true
      · rw [octN, if_pos hc]; simpa using ih _ t
      · simp [octN, hc]
theorem esc_take (c : UInt8) (t : List UInt8) (p : Nat) (hp : (escL (c :: t)).2 ≤ p) : escL ((c :: t).take p) = escL (c :: t) := by
  have hpos := esc_pos c t
  obtain ⟨q, rfl⟩ : ∃ q, p = q + 1 := ⟨p - 1, by omega⟩
  have ht : (c :: t).take (q + 1) = c :: t.take q := List.take_succ_cons
  rw [ht]
  rw [escL] at hp ⊢
  conv => rhs; rw [escL]
  by_cases h1 : c = 110
  · rw [if_pos h1, if_pos h1]
  rw [if_neg h1, if_neg h1]; rw [if_neg h1] at hp
  by_cases h2 : c = 114
  · rw [if_pos h2, if_pos h2]
  rw [if_neg h2, if_neg h2]; rw [if_neg h2] at hp
  by_cases h3 : c = 116
  · rw [if_pos h3, if_pos h3]
  rw [if_neg h3, if_neg h3]; rw [if_neg h3] at hp
  by_cases h4 : c = 98
  · rw [if_pos h4, if_pos h4]
  rw [if_neg h4, if_neg h4]; rw [if_neg h4] at hp
  by_cases h5 : c = 102
  · rw [if_pos h5, if_pos h5]
  rw [if_neg h5, if_neg h5]; rw [if_neg h5] at hp
  by_cases h6 : c = 13
  · rw [if_pos h6, if_pos h6]; rw [if_pos h6] at hp
    rw [← ht, line_take t _ (.inl h6) hp]
  rw [if_neg h6, if_neg h6]; rw [if_neg h6] at hp
  by_cases h7 : c = 10
  · rw [if_pos h7, if_pos h7]; rw [if_pos h7] at hp
    rw [← ht, line_take t _ (.inr h7) hp]
  rw [if_neg h7, if_neg h7]; rw [if_neg h7] at hp
  by_cases h8 : octD c = true
  · rw [if_pos h8, if_pos h8]; rw [if_pos h8] at hp
    rw [← ht, oct_take 3 0 _ _ hp]
  · rw [if_neg h8, if_neg h8]
theorem esc_len (c : UInt8) (t : List UInt8) : (escL (c :: t)).2 ≤ (c :: t).length := by
  have hl := lineN_le (c :: t)
  have ho := oct_len 3 0 (c :: t)
  have h1 : 1 ≤ (c :: t).length := by simp
  rw [escL]
  repeat' split
  all_goals assumption

theorem pre_some {l x : List UInt8} {a n : Nat} {o : Option (List UInt8 × Nat)} (h : pre l a o = some (x, n)) : ∃ y m, o = some (y, m) ∧ x = l ++ y ∧ n = a + m := by
  cases o with
  | none => cases h
  | some o =>
    obtain ⟨y, m⟩ := o
    simp [pre] at h
    exact ⟨y, m, rfl, h.1.symm, h.2.symm⟩

theorem lit_take (f : Nat) : ∀ (d : Nat) (l x : List UInt8) (n : Nat), litL f d l = some (x, n) → 0 < n ∧ n ≤ l.length ∧ ∀ g, n ≤ g → litL g d (l.take n) = some (x, n) := by
  induction f with
  | zero => intro d l x n h; rw [litL] at h; cases h
  | succ f ih =>
    intro d l x n h
    rcases l with _ | ⟨c, t⟩
    · rw [lit_end] at h; cases h
    by_cases h1 : c = 92
    · rcases t with _ | ⟨b, t⟩
      · rw [lit_cut h1] at h; cases h
      rw [lit_back h1 (by simp)] at h
      obtain ⟨y, m, hm, rfl, rfl⟩ := pre_some h
      obtain ⟨i1, i2, i3⟩ := ih _ _ _ _ hm
      have hk := esc_len b t
      rw [List.length_drop] at i2
      refine ⟨by omega, by simp only [List.length_cons] at i2 hk ⊢; omega, fun g hg => ?_⟩
      obtain ⟨g, rfl⟩ : ∃ e, g = e + 1 := ⟨g - 1, by omega⟩
      have e1 : 1 + (escL (b :: t)).2 + m = ((escL (b :: t)).2 + m) + 1 := by omega
      have hkp := esc_pos b t
      have hne : (b :: t).take ((escL (b :: t)).2 + m) ≠ [] := by
        obtain ⟨q, hq⟩ : ∃ q, (escL (b :: t)).2 + m = q + 1 := ⟨(escL (b :: t)).2 + m - 1, by omega⟩
        rw [hq, List.take_succ_cons]; simp
      rw [e1, List.take_succ_cons, lit_back h1 hne, esc_take b t ((escL (b :: t)).2 + m) (by omega)]
      have e2 : ((b :: t).take ((escL (b :: t)).2 + m)).drop (escL (b :: t)).2 = ((b :: t).drop (escL (b :: t)).2).take m := by rw [List.drop_take]; congr 1; omega
      rw [e2, i3 g (by omega)]
      simp [pre]; omega
    by_cases h2 : c = 13 ∨ c = 10
    · rw [lit_line h2] at h
      obtain ⟨y, m, hm, rfl, rfl⟩ := pre_some h
      obtain ⟨i1, i2, i3⟩ := ih _ _ _ _ hm
      have hk := lineN_le (c :: t)
      have hkp := lineN_pos c t
      rw [List.length_drop] at i2
      refine ⟨by omega, by omega, fun g hg => ?_⟩
      obtain ⟨g, rfl⟩ : ∃ e, g = e + 1 := ⟨g - 1, by omega⟩
      have e3 := line_take t (lineN (c :: t) + m) h2 (by omega)
      have e2 : ((c :: t).take (lineN (c :: t) + m)).drop (lineN (c :: t)) = ((c :: t).drop (lineN (c :: t))).take m := by rw [List.drop_take]; congr 1; omega
      obtain ⟨q, hq⟩ : ∃ q, lineN (c :: t) + m = q + 1 := ⟨lineN (c :: t) + m - 1, by omega⟩
      have e4 : (c :: t).take (lineN (c :: t) + m) = c :: t.take q := by rw [hq, List.take_succ_cons]
      rw [e4] at e2 e3 ⊢
      rw [lit_line h2, e3, e2, i3 g (by omega)]
      simp [pre]
    by_cases h3 : c = 41
    · by_cases hd : d = 1
      · subst hd
        rw [lit_done h3] at h
        cases h
        refine ⟨by omega, by simp, fun g hg => ?_⟩
        obtain ⟨g, rfl⟩ : ∃ e, g = e + 1 := ⟨g - 1, by omega⟩
        rw [List.take_succ_cons, lit_done h3]
      · rw [lit_close h3 hd] at h
        obtain ⟨y, m, hm, rfl, rfl⟩ := pre_some h
        obtain ⟨i1, i2, i3⟩ := ih _ _ _ _ hm
        refine ⟨by omega, by simp only [List.length_cons]; omega, fun g hg => ?_⟩
        obtain ⟨g, rfl⟩ : ∃ e, g = e + 1 := ⟨g - 1, by omega⟩
        rw [Nat.add_comm 1, List.take_succ_cons, lit_close h3 hd, i3 g (by omega)]
        simp [pre]; omega
    by_cases h4 : c = 40
    · rw [lit_open h4] at h
      obtain ⟨y, m, hm, rfl, rfl⟩ := pre_some h
      obtain ⟨i1, i2, i3⟩ := ih _ _ _ _ hm
      refine ⟨by omega, by simp only [List.length_cons]; omega, fun g hg => ?_⟩
      obtain ⟨g, rfl⟩ : ∃ e, g = e + 1 := ⟨g - 1, by omega⟩
      rw [Nat.add_comm 1, List.take_succ_cons, lit_open h4, i3 g (by omega)]
      simp [pre]; omega
    · rw [lit_plain h1 h2 h3 h4] at h
      obtain ⟨y, m, hm, rfl, rfl⟩ := pre_some h
      obtain ⟨i1, i2, i3⟩ := ih _ _ _ _ hm
      refine ⟨by omega, by simp only [List.length_cons]; omega, fun g hg => ?_⟩
      obtain ⟨g, rfl⟩ : ∃ e, g = e + 1 := ⟨g - 1, by omega⟩
      rw [Nat.add_comm 1, List.take_succ_cons, lit_plain h1 h2 h3 h4, i3 g (by omega)]
      simp [pre]; omega

theorem hex_pos (l : List UInt8) (h : (hexL l).1 = 0) : 0 < (hexL l).2.2 := by
  rcases l with _ | ⟨c, t⟩
  · rw [hexL] at h; cases h
  · rw [hexL] at h ⊢
    split
    · simp
    · rename_i h1
      rw [if_neg h1] at h
      split
      · simp; omega
      · rename_i h2
        rw [if_neg h2] at h
        split
        · simp; omega
        · rename_i h3; rw [if_neg h3] at h; cases h

theorem word_cases (u : List UInt8) : wordU u = bad 2 ∨ wordU u = bad 5 ∨ ∃ k n x, k ≠ 0 ∧ wordU u = ⟨0, k, u.length, n, x⟩ := by
  unfold wordU
  by_cases h1 : intL u = true
  · rw [if_pos h1]
    by_cases h2 : 2147483647 < valL 0 (bodyL u)
    · rw [if_pos h2]; exact .inl rfl
    · rw [if_neg h2]; exact .inr (.inr ⟨_, _, _, by decide, rfl⟩)
  · rw [if_neg h1]
    by_cases h2 : (u.contains 46 && decide (readE u = 0)) = true
    · rw [if_pos h2]; exact .inr (.inr ⟨_, _, _, by decide, rfl⟩)
    · rw [if_neg h2]
      by_cases h3 : (u.contains 46 && decide (readE u = 2)) = true
      · rw [if_pos h3]; exact .inl rfl
      · rw [if_neg h3]
        by_cases h4 : 127 < u.length
        · rw [if_pos h4]; exact .inr (.inl rfl)
        · rw [if_neg h4]; exact .inr (.inr ⟨_, _, _, by decide, rfl⟩)
theorem word_len (u : List UInt8) (h : (wordU u).err = 0) : (wordU u).len = u.length := by
  rcases word_cases u with e | e | ⟨k, n, x, _, e⟩
  · rw [e] at h; cases h
  · rw [e] at h; cases h
  · rw [e]
theorem word_kind (u : List UInt8) (h : (wordU u).err = 0) : (wordU u).kind ≠ 0 := by
  rcases word_cases u with e | e | ⟨k, n, x, hk, e⟩
  · rw [e] at h; cases h
  · rw [e] at h; cases h
  · rw [e]; exact hk
/-- A token that stands at the head of a list, and the same bytes alone. -/
theorem tok_take (c : UInt8) (t : List UInt8) (hw : whiteS c = false) (h37 : c ≠ 37) (h : (tokR (c :: t)).err = 0) :
    0 < (tokR (c :: t)).len ∧ (tokR (c :: t)).len ≤ (c :: t).length ∧ (tokR (c :: t)).kind ≠ 0 ∧ tokR ((c :: t).take (tokR (c :: t)).len) = tokR (c :: t) := by
  have one : ∀ u : List UInt8, (c :: u).take 1 = [c] := fun u => by simp
  rw [tokR] at h ⊢
  by_cases h1 : c = 91
  · rw [if_pos h1]; exact ⟨by simp [mark], by simp [mark], by simp [mark], by simp [mark, tokR, h1]⟩
  rw [if_neg h1] at h ⊢
  by_cases h2 : c = 93
  · rw [if_pos h2]; exact ⟨by simp [mark], by simp [mark], by simp [mark], by simp [mark, tokR, h2]⟩
  rw [if_neg h2] at h ⊢
  by_cases h3 : c = 123
  · rw [if_pos h3]; exact ⟨by simp [mark], by simp [mark], by simp [mark], by simp [mark, tokR, h3]⟩
  rw [if_neg h3] at h ⊢
  by_cases h4 : c = 125
  · rw [if_pos h4]; exact ⟨by simp [mark], by simp [mark], by simp [mark], by simp [mark, tokR, h4]⟩
  rw [if_neg h4] at h ⊢
  by_cases h5 : c = 60
  · rw [if_pos h5] at h ⊢
    by_cases h6 : t.head? = some 60
    · rw [if_pos h6]
      rcases t with _ | ⟨b, t⟩
      · cases h6
      · simp at h6
        subst h5 h6
        exact ⟨by simp [mark], by simp [mark], by simp [mark], by simp [mark, tokR]⟩
    · rw [if_neg h6] at h ⊢
      unfold hexR at h ⊢
      by_cases h7 : (hexL t).1 = 0
      · rw [if_pos h7] at h ⊢
        obtain ⟨e1, e2⟩ := hex_take t h7
        have e3 := hex_pos t h7
        cases hu : unhexS (evenL (hexL t).2.1) with
        | none => rw [hu] at h; cases h
        | some x =>
          rw [hu] at h
          simp only at h ⊢
          by_cases h8 : 32767 < x.length
          · rw [if_pos h8] at h; cases h
          · rw [if_neg h8]
            refine ⟨by simp; omega, by simp only [List.length_cons]; omega, by simp, ?_⟩
            simp only
            rw [Nat.add_comm 1, List.take_succ_cons, tokR, if_neg h1, if_neg h2, if_neg h3, if_neg h4, if_pos h5, if_neg, hexR, e1, if_pos h7, hu]
            · simp [h8]; omega
            · obtain ⟨q, hq⟩ : ∃ q, (hexL t).2.2 = q + 1 := ⟨(hexL t).2.2 - 1, by omega⟩
              rw [hq]
              rcases t with _ | ⟨b, t⟩
              · simp
              · simpa using h6
      · rw [if_neg h7] at h; exact absurd h h7
  rw [if_neg h5] at h ⊢
  by_cases h6 : c = 62
  · rw [if_pos h6] at h ⊢
    by_cases h7 : t.head? = some 62
    · rw [if_pos h7]
      rcases t with _ | ⟨b, t⟩
      · cases h7
      · simp at h7
        subst h6 h7
        exact ⟨by simp [mark], by simp [mark], by simp [mark], by simp [mark, tokR]⟩
    · rw [if_neg h7] at h; cases h
  rw [if_neg h6] at h ⊢
  by_cases h7 : c = 41
  · rw [if_pos h7] at h; cases h
  rw [if_neg h7] at h ⊢
  by_cases h8 : c = 40
  · rw [if_pos h8] at h ⊢
    unfold litR at h ⊢
    cases hx : litL t.length 1 t with
    | none => rw [hx] at h; cases h
    | some xn =>
      obtain ⟨x, n⟩ := xn
      rw [hx] at h
      simp only at h ⊢
      obtain ⟨i1, i2, i3⟩ := lit_take _ _ _ _ _ hx
      by_cases h9 : 32767 < x.length
      · rw [if_pos h9] at h; cases h
      · rw [if_neg h9]
        refine ⟨by simp; omega, by simp only [List.length_cons]; omega, by simp, ?_⟩
        simp only
        rw [Nat.add_comm 1, List.take_succ_cons, tokR, if_neg h1, if_neg h2, if_neg h3, if_neg h4, if_neg h5, if_neg h6, if_neg h7, if_pos h8, litR, i3 _ (by rw [List.length_take]; omega)]
        simp [h9]; omega
  rw [if_neg h8] at h ⊢
  by_cases h9 : c = 47
  · rw [if_pos h9] at h ⊢
    have e1 := run_take t
    have e2 := run_len t
    have e3 := run_idem t
    unfold nameR at h ⊢
    cases hx : decL (runL t) with
    | none => rw [hx] at h; cases h
    | some x =>
      rw [hx] at h
      simp only at h ⊢
      by_cases h10 : 127 < x.length
      · rw [if_pos h10] at h; cases h
      · rw [if_neg h10]
        refine ⟨by simp; omega, by simp only [List.length_cons]; omega, by simp, ?_⟩
        simp only
        rw [Nat.add_comm 1, List.take_succ_cons, tokR, if_neg h1, if_neg h2, if_neg h3, if_neg h4, if_neg h5, if_neg h6, if_neg h7, if_neg h8, if_pos h9, e1, nameR, e3, hx]
        simp [h10]; omega
  rw [if_neg h9] at h ⊢
  have hr : regularS c = true := by
    unfold regularS delimS
    simp [hw, h1, h2, h3, h4, h5, h6, h7, h8, h9, h37]
  have e1 := run_take (c :: t)
  have e2 := run_len (c :: t)
  have e3 := run_idem (c :: t)
  have el := word_len _ h
  have ep : 0 < (runL (c :: t)).length := by unfold runL; rw [List.takeWhile_cons, hr, if_pos rfl]; simp
  obtain ⟨u, hu⟩ : ∃ u, runL (c :: t) = c :: u := by unfold runL; rw [List.takeWhile_cons, hr, if_pos rfl]; exact ⟨_, rfl⟩
  refine ⟨by rw [el]; exact ep, by rw [el]; exact e2, word_kind _ h, ?_⟩
  rw [el, e1, hu, tokR, if_neg h1, if_neg h2, if_neg h3, if_neg h4, if_neg h5, if_neg h6, if_neg h7, if_neg h8, if_neg h9]
  rw [hu] at e3
  rw [e3]
end Go.Proofs.YtdpbpdikgcepbaaGreatDoor.Lex
namespace Go.Proofs.YtdpbpdikgcepbaaGreatDoor.Lex
open Go.Proofs.YtdpbpdikgcepbaaGreatDoor.Oct Go.Proofs.YtdpbpdikgcepbaaGreatDoor.Fix

structure Tk where
  kind : Int
  beg : Int
  stop : Int
  num : Int
  txt : List UInt8
/-- The tokens, the place of the first error, and the error; no tokens where there is an error. -/
abbrev Up := List Tk × Int × Int
def consT (t : Tk) (r : Up) : Up := if r.2.2 = 0 then (t :: r.1, r.2) else r
def preT (l : List Tk) (r : Up) : Up := if r.2.2 = 0 then (l ++ r.1, r.2) else r
theorem preT_nil (r : Up) : preT [] r = r := by unfold preT; split <;> rfl
theorem preT_cons (l : List Tk) (t : Tk) (r : Up) : preT l (consT t r) = preT (l ++ [t]) r := by
  unfold preT consT
  by_cases h : r.2.2 = 0
  · rw [if_pos h, if_pos h]
    simp only
    rw [if_pos h, List.append_assoc]
    rfl
  · rw [if_neg h, if_neg h, if_neg h]
def tkOf (i : Nat) (R : TR) : Tk := ⟨R.kind, i, ((i + R.len : Nat) : Int), R.num, R.txt⟩
def uptoN : Nat → List UInt8 → Nat → Up
  | 0, _, _ => ([], 0, 0)
  | n + 1, l, a => if (nextR l a).err = 0 then (if (nextR l a).kind = 0 then ([], 0, 0) else consT (tkOf (nextI l a) (nextR l a)) (uptoN n l (nextI l a + (nextR l a).len))) else ([], (nextI l a : Int), (nextR l a).err)
theorem upto_zero (l : List UInt8) (a : Nat) : uptoN 0 l a = ([], 0, 0) := by rw [uptoN]
theorem upto_bad {n : Nat} {l : List UInt8} {a : Nat} (h : (nextR l a).err ≠ 0) : uptoN (n + 1) l a = ([], (nextI l a : Int), (nextR l a).err) := by rw [uptoN, if_neg h]
theorem upto_end {n : Nat} {l : List UInt8} {a : Nat} (h : (nextR l a).err = 0) (hk : (nextR l a).kind = 0) : uptoN (n + 1) l a = ([], 0, 0) := by rw [uptoN, if_pos h, if_pos hk]
theorem upto_more {n : Nat} {l : List UInt8} {a : Nat} (h : (nextR l a).err = 0) (hk : (nextR l a).kind ≠ 0) : uptoN (n + 1) l a = consT (tkOf (nextI l a) (nextR l a)) (uptoN n l (nextI l a + (nextR l a).len)) := by rw [uptoN, if_pos h, if_neg hk]
def uptoI (l : List UInt8) (a most : Int) : Up := if a < 0 ∨ (l.length : Int) < a then ([], 0, 1) else uptoN most.toNat l a.toNat

/-- What has been read after some steps of so many. -/
def UpAt (N : Nat) (l : List UInt8) (a0 j : Nat) (out : List Tk) (a : Nat) : Prop := uptoN N l a0 = preT out (uptoN (N - j) l a) ∧ out.length = j ∧ a0 + j ≤ a ∧ a ≤ l.length
theorem UpAt.zero {N : Nat} {l : List UInt8} {a0 : Nat} (h : a0 ≤ l.length) : UpAt N l a0 0 [] a0 := ⟨by rw [preT_nil, Nat.sub_zero], rfl, Nat.le_refl _, h⟩
theorem next_le (l : List UInt8) (a : Nat) (h : a ≤ l.length) : a ≤ nextI l a ∧ nextI l a ≤ l.length := by
  have := skipN_le false (l.drop a)
  rw [List.length_drop] at this
  unfold nextI
  omega
/-- Where the next token begins, its first byte is neither white nor a comment's. -/
theorem next_head {l : List UInt8} {a : Nat} (ha : a ≤ l.length) (h : nextI l a < l.length) : ∃ c t, l.drop (nextI l a) = c :: t ∧ whiteS c = false ∧ c ≠ 37 := by
  have h1 : skipN false (l.drop a) < (l.drop a).length := by
    rw [List.length_drop]
    unfold nextI at h
    omega
  obtain ⟨c, t, e, hw, h37⟩ := skip_at _ h1
  rw [List.drop_drop] at e
  exact ⟨c, t, e, hw, h37⟩
theorem next_end {l : List UInt8} {a : Nat} (h : l.length ≤ nextI l a) : nextR l a = ⟨0, 0, 0, 0, []⟩ := by
  unfold nextR
  rw [List.drop_eq_nil_of_le h, tokR]
theorem next_some {l : List UInt8} {a : Nat} (ha : a ≤ l.length) (h : (nextR l a).err = 0) (hk : (nextR l a).kind ≠ 0) :
    nextI l a < l.length ∧ 0 < (nextR l a).len ∧ nextI l a + (nextR l a).len ≤ l.length := by
  have hlt : nextI l a < l.length := by
    rcases Nat.lt_or_ge (nextI l a) l.length with h1 | h1
    · exact h1
    · rw [next_end h1] at hk
      exact absurd rfl hk
  obtain ⟨c, t, e, hw, h37⟩ := next_head ha hlt
  have hl : (l.drop (nextI l a)).length = l.length - nextI l a := List.length_drop
  have e2 : nextR l a = tokR (c :: t) := by unfold nextR; rw [e]
  rw [e2] at h
  obtain ⟨h1, h2, _, _⟩ := tok_take c t hw h37 h
  rw [e] at hl
  rw [e2]
  exact ⟨hlt, h1, by omega⟩
theorem UpAt.more {N : Nat} {l : List UInt8} {a0 j : Nat} {out : List Tk} {a : Nat} (h : UpAt N l a0 j out a) (hj : j < N) (he : (nextR l a).err = 0) (hk : (nextR l a).kind ≠ 0) :
    UpAt N l a0 (j + 1) (out ++ [tkOf (nextI l a) (nextR l a)]) (nextI l a + (nextR l a).len) := by
  obtain ⟨h1, h2, h3, h4⟩ := h
  obtain ⟨n1, n2, n3⟩ := next_some h4 he hk
  have n4 := (next_le l a h4).1
  refine ⟨?_, by simp [h2], by omega, n3⟩
  rw [h1, show N - j = (N - (j + 1)) + 1 from by omega, upto_more he hk, preT_cons]
theorem UpAt.bad {N : Nat} {l : List UInt8} {a0 j : Nat} {out : List Tk} {a : Nat} (h : UpAt N l a0 j out a) (hj : j < N) (he : (nextR l a).err ≠ 0) : uptoN N l a0 = ([], (nextI l a : Int), (nextR l a).err) := by
  rw [h.1, show N - j = (N - (j + 1)) + 1 from by omega, upto_bad he]
  unfold preT
  rw [if_neg he]
theorem UpAt.done {N : Nat} {l : List UInt8} {a0 j : Nat} {out : List Tk} {a : Nat} (h : UpAt N l a0 j out a) (hj : j < N) (he : (nextR l a).err = 0) (hk : (nextR l a).kind = 0) : uptoN N l a0 = (out, 0, 0) := by
  rw [h.1, show N - j = (N - (j + 1)) + 1 from by omega, upto_end he hk]
  unfold preT
  simp
theorem UpAt.full {N : Nat} {l : List UInt8} {a0 j : Nat} {out : List Tk} {a : Nat} (h : UpAt N l a0 j out a) (hj : N ≤ j) : uptoN N l a0 = (out, 0, 0) := by
  rw [h.1, show N - j = 0 from by omega, upto_zero]
  unfold preT
  simp
end Go.Proofs.YtdpbpdikgcepbaaGreatDoor.Lex
namespace Go.Proofs.YtdpbpdikgcepbaaGreatDoor.Lex
open Go.Proofs.YtdpbpdikgcepbaaGreatDoor.Oct Go.Proofs.YtdpbpdikgcepbaaGreatDoor.Fix

/-! ### Numbers -/
theorem dig_reg {c : UInt8} (h : isDig c = true) : regularS c = true := by
  have := all_bytes (fun c => !isDig c || regularS c) (by decide +kernel) c
  rw [h] at this
  simpa using this
theorem dig_plain {c : UInt8} (h : isDig c = true) : c ≠ 45 ∧ c ≠ 43 ∧ c ≠ 91 ∧ c ≠ 93 ∧ c ≠ 123 ∧ c ≠ 125 ∧ c ≠ 60 ∧ c ≠ 62 ∧ c ≠ 41 ∧ c ≠ 40 ∧ c ≠ 47 ∧ c ≠ 37 ∧ whiteS c = false := by
  have := all_bytes (fun c => !isDig c || (decide (c ≠ 45 ∧ c ≠ 43 ∧ c ≠ 91 ∧ c ≠ 93 ∧ c ≠ 123 ∧ c ≠ 125 ∧ c ≠ 60 ∧ c ≠ 62 ∧ c ≠ 41 ∧ c ≠ 40 ∧ c ≠ 47 ∧ c ≠ 37) && !whiteS c)) (by decide +kernel) c
  rw [h] at this
  simpa [and_assoc] using this
theorem run_dig (d t : List UInt8) (hd : d.all isDig = true) : runL (d ++ 47 :: t) = d := by
  unfold runL
  rw [List.takeWhile_append_of_pos (fun c hc => dig_reg (List.all_eq_true.1 hd c hc)), List.takeWhile_cons]
  have : regularS 47 = false := by decide
  rw [this]
  simp
/-- A sign or none. -/
def signL (m : Bool) : List UInt8 := if m then [45] else []
theorem run_num (m : Bool) (d t : List UInt8) (hd : d.all isDig = true) : runL (signL m ++ (d ++ 47 :: t)) = signL m ++ d := by
  cases m with
  | false => exact run_dig d t hd
  | true =>
    show runL (45 :: (d ++ 47 :: t)) = 45 :: d
    unfold runL
    rw [List.takeWhile_cons, if_pos (by decide)]
    exact congrArg _ (run_dig d t hd)
theorem body_num (m : Bool) (d : List UInt8) (hd : d.all isDig = true) : bodyL (signL m ++ d) = d ∧ (d ≠ [] → minusL (signL m ++ d) = m) := by
  cases m with
  | true => exact ⟨rfl, fun _ => rfl⟩
  | false =>
    cases d with
    | nil => exact ⟨rfl, fun h => absurd rfl h⟩
    | cons c d =>
      have h1 := dig_plain (List.all_eq_true.1 hd c (by simp))
      refine ⟨?_, fun _ => ?_⟩
      · show (if c = 45 then d else if c = 43 then d else c :: d) = c :: d
        rw [if_neg h1.1, if_neg h1.2.1]
      · show (c == 45) = false
        simpa using h1.1
/-- What is read of a line's end, a number's digits and a slash. -/
theorem next_num (m : Bool) (d t : List UInt8) (hd : d.all isDig = true) (hne : d ≠ []) :
    nextI (10 :: (signL m ++ (d ++ 47 :: t))) 0 = 1 ∧ nextR (10 :: (signL m ++ (d ++ 47 :: t))) 0 = (if 2147483647 < valL 0 d then bad 2 else ⟨0, 1, (signL m ++ d).length, if m then -(valL 0 d) else valL 0 d, []⟩) := by
  obtain ⟨c, u, hc, hr⟩ : ∃ c u, signL m ++ (d ++ 47 :: t) = c :: u ∧ (whiteS c = false ∧ c ≠ 37 ∧ c ≠ 91 ∧ c ≠ 93 ∧ c ≠ 123 ∧ c ≠ 125 ∧ c ≠ 60 ∧ c ≠ 62 ∧ c ≠ 41 ∧ c ≠ 40 ∧ c ≠ 47) := by
    cases m with
    | true => exact ⟨45, _, rfl, by decide⟩
    | false =>
      cases d with
      | nil => exact absurd rfl hne
      | cons c d =>
        have h1 := dig_plain (List.all_eq_true.1 hd c (by simp))
        exact ⟨c, _, rfl, h1.2.2.2.2.2.2.2.2.2.2.2.2, h1.2.2.2.2.2.2.2.2.2.2.2.1, h1.2.2.1, h1.2.2.2.1, h1.2.2.2.2.1, h1.2.2.2.2.2.1, h1.2.2.2.2.2.2.1, h1.2.2.2.2.2.2.2.1, h1.2.2.2.2.2.2.2.2.1, h1.2.2.2.2.2.2.2.2.2.1, h1.2.2.2.2.2.2.2.2.2.2.1⟩
  obtain ⟨w0, w1, w2, w3, w4, w5, w6, w7, w8, w9, w10⟩ := hr
  have hi : nextI (10 :: (signL m ++ (d ++ 47 :: t))) 0 = 1 := by
    unfold nextI
    rw [List.drop_zero, skipN_white _ (by decide), hc, skipN_stop _ w0 w1]
  refine ⟨hi, ?_⟩
  unfold nextR
  rw [hi, List.drop_succ_cons, List.drop_zero]
  have hrun := run_num m d t hd
  rw [hc] at hrun ⊢
  rw [tokR, if_neg w2, if_neg w3, if_neg w4, if_neg w5, if_neg w6, if_neg w7, if_neg w8, if_neg w9, if_neg w10, hrun]
  obtain ⟨b1, b2⟩ := body_num m d hd
  have hI : intL (signL m ++ d) = true := by
    unfold intL
    rw [b1, hd]
    cases d with
    | nil => exact absurd rfl hne
    | cons => rfl
  unfold wordU
  rw [if_pos hI, b1]
  split
  · rfl
  · unfold intN
    rw [b2 hne, b1]

/-! ### Strings -/
def sepL (b : Bool) : List UInt8 := if b then [32, 13, 10] else []
/-- Digits with white bytes behind each, or without. -/
def wideL (b : Bool) (h : List UInt8) : List UInt8 := h.flatMap fun c => c :: sepL b
theorem wide_snoc (b : Bool) (h : List UInt8) (c : UInt8) : wideL b (h ++ [c]) = wideL b h ++ (c :: sepL b) := by unfold wideL; rw [List.flatMap_append]; simp
theorem dig_hex {c : UInt8} (h : 0 ≤ digitS c) : c ≠ 62 := by
  intro e
  subst e
  revert h
  decide
theorem hex_wide (b : Bool) (h t : List UInt8) (hd : ∀ c ∈ h, 0 ≤ digitS c) : hexL (wideL b h ++ 62 :: t) = (0, h, (wideL b h).length + 1) := by
  induction h with
  | nil => exact hex_cons_end t
  | cons c h ih =>
    have ih := ih fun x hx => hd x (by simp [hx])
    have hc := hd c (by simp)
    have e : wideL b (c :: h) ++ 62 :: t = c :: (sepL b ++ (wideL b h ++ 62 :: t)) := by unfold wideL; simp
    have el : (wideL b (c :: h)).length = 1 + (sepL b).length + (wideL b h).length := by unfold wideL; simp; omega
    rw [e, hex_cons_dig _ (dig_hex hc) hc, el]
    have es : hexL (sepL b ++ (wideL b h ++ 62 :: t)) = (0, h, (sepL b).length + ((wideL b h).length + 1)) := by
      cases b with
      | false => show hexL (wideL false h ++ 62 :: t) = _; rw [ih]; simp [sepL]
      | true =>
        show hexL (32 :: 13 :: 10 :: (wideL true h ++ 62 :: t)) = _
        rw [hex_cons_white _ (by decide) (by decide) (by decide), hex_cons_white _ (by decide) (by decide) (by decide), hex_cons_white _ (by decide) (by decide) (by decide), ih]
        simp [sepL]; omega
    rw [es]
    simp; omega
theorem hexS_dig (l : List UInt8) : ∀ c ∈ hexS l, 0 ≤ digitS c := by
  induction l with
  | nil => intro c hc; cases hc
  | cons a l ih =>
    intro c hc
    obtain ⟨h1, h2, _⟩ := hexd_digit a
    rcases List.mem_cons.1 hc with rfl | hc
    · rw [h1]; omega
    · rcases List.mem_cons.1 hc with rfl | hc
      · rw [h2]; omega
      · exact ih c hc
theorem next_hex (b : Bool) (l t : List UInt8) (hl : l.length ≤ 32767) :
    nextI (60 :: (wideL b (hexS l) ++ 62 :: t)) 0 = 0 ∧ nextR (60 :: (wideL b (hexS l) ++ 62 :: t)) 0 = ⟨0, 3, (wideL b (hexS l)).length + 2, 0, l⟩ := by
  have hi : nextI (60 :: (wideL b (hexS l) ++ 62 :: t)) 0 = 0 := by
    unfold nextI
    rw [List.drop_zero, skipN_stop _ (by decide) (by decide)]
  refine ⟨hi, ?_⟩
  have hh : (wideL b (hexS l) ++ 62 :: t).head? ≠ some 60 := by
    cases l with
    | nil => simp [hexS, wideL]
    | cons a l =>
      have h1 := (hexS_dig (a :: l)) (hexd (a.toNat / 16)) (by simp [hexS])
      intro e
      simp [hexS, wideL] at e
      rw [e] at h1
      revert h1
      decide
  unfold nextR
  rw [hi, List.drop_zero, tokR, if_neg (by decide), if_neg (by decide), if_neg (by decide), if_neg (by decide), if_pos rfl, if_neg hh]
  unfold hexR
  rw [hex_wide b _ t (hexS_dig l), if_pos rfl]
  have he : evenL (hexS l) = hexS l := by unfold evenL; rw [hexS_length, if_neg (by omega)]
  simp only
  rw [he, unhex_hex]
  simp only
  rw [if_neg (by omega)]
  congr 1
  omega

/-- Three octal digits for each byte. -/
def oct3 (c : UInt8) : List UInt8 := [92, UInt8.ofNat (48 + c.toNat / 64), UInt8.ofNat (48 + c.toNat / 8 % 8), UInt8.ofNat (48 + c.toNat % 8)]
def octsL (l : List UInt8) : List UInt8 := l.flatMap oct3
theorem octs_snoc (l : List UInt8) (c : UInt8) : octsL (l ++ [c]) = octsL l ++ oct3 c := by unfold octsL; rw [List.flatMap_append]; simp
theorem octs_len (l : List UInt8) : (octsL l).length = 4 * l.length := by
  induction l with
  | nil => rfl
  | cons c l ih => unfold octsL at *; simp [oct3, ih]; omega
def octOk (c : UInt8) : Bool :=
  let x := UInt8.ofNat (48 + c.toNat / 64)
  let y := UInt8.ofNat (48 + c.toNat / 8 % 8)
  let z := UInt8.ofNat (48 + c.toNat % 8)
  octD x && octD y && octD z && decide (8 * (8 * (8 * 0 + (x.toNat - 48)) + (y.toNat - 48)) + (z.toNat - 48) = c.toNat) && decide (x ≠ 110 ∧ x ≠ 114 ∧ x ≠ 116 ∧ x ≠ 98 ∧ x ≠ 102 ∧ x ≠ 13 ∧ x ≠ 10)
theorem esc_oct (c : UInt8) (t : List UInt8) : escL (UInt8.ofNat (48 + c.toNat / 64) :: UInt8.ofNat (48 + c.toNat / 8 % 8) :: UInt8.ofNat (48 + c.toNat % 8) :: t) = ([c], 3) := by
  have h := all_bytes octOk (by decide +kernel) c
  unfold octOk at h
  simp only [Bool.and_eq_true, decide_eq_true_eq] at h
  obtain ⟨⟨⟨⟨h1, h2⟩, h3⟩, h4⟩, n1, n2, n3, n4, n5, n6, n7⟩ := h
  rw [escL, if_neg n1, if_neg n2, if_neg n3, if_neg n4, if_neg n5, if_neg n6, if_neg n7, if_pos h1, octN, if_pos h1, octN, if_pos h2, octN, if_pos h3, octN]
  simp only
  rw [h4]
  have : c.toNat % 256 = c.toNat := Nat.mod_eq_of_lt c.toNat_lt
  rw [this]
  simp
theorem lit_octs (l t : List UInt8) : ∀ f, l.length + 1 ≤ f → litL f 1 (octsL l ++ 41 :: t) = some (l, (octsL l).length + 1) := by
  induction l with
  | nil =>
    intro f hf
    obtain ⟨f, rfl⟩ : ∃ g, f = g + 1 := ⟨f - 1, by simp at hf; omega⟩
    exact lit_done rfl
  | cons c l ih =>
    intro f hf
    obtain ⟨f, rfl⟩ : ∃ g, f = g + 1 := ⟨f - 1, by omega⟩
    have e : octsL (c :: l) ++ 41 :: t = 92 :: (UInt8.ofNat (48 + c.toNat / 64) :: UInt8.ofNat (48 + c.toNat / 8 % 8) :: UInt8.ofNat (48 + c.toNat % 8) :: (octsL l ++ 41 :: t)) := by unfold octsL; simp [oct3]
    rw [e, lit_back rfl (by simp), esc_oct]
    simp only [List.drop_succ_cons, List.drop_zero]
    rw [ih f (by simp at hf; omega)]
    have el : (octsL (c :: l)).length = 4 + (octsL l).length := by rw [octs_len, octs_len]; simp; omega
    rw [el]
    simp [pre]; omega
theorem next_octs (l t : List UInt8) (hl : l.length ≤ 32767) :
    nextI (40 :: (octsL l ++ 41 :: t)) 0 = 0 ∧ nextR (40 :: (octsL l ++ 41 :: t)) 0 = ⟨0, 3, (octsL l).length + 2, 0, l⟩ := by
  have hi : nextI (40 :: (octsL l ++ 41 :: t)) 0 = 0 := by
    unfold nextI
    rw [List.drop_zero, skipN_stop _ (by decide) (by decide)]
  refine ⟨hi, ?_⟩
  unfold nextR
  rw [hi, List.drop_zero, tokR, if_neg (by decide), if_neg (by decide), if_neg (by decide), if_neg (by decide), if_neg (by decide), if_neg (by decide), if_neg (by decide), if_pos rfl]
  unfold litR
  rw [lit_octs l t _ (by rw [List.length_append, octs_len]; simp; omega)]
  simp only
  rw [if_neg (by omega)]
  congr 1
  omega
end Go.Proofs.YtdpbpdikgcepbaaGreatDoor.Lex
namespace Go.Proofs.YtdpbpdikgcepbaaGreatDoor.Lex
open Go.Proofs.YtdpbpdikgcepbaaGreatDoor.Oct Go.Proofs.YtdpbpdikgcepbaaGreatDoor.Fix

def ChainT (l : List UInt8) : Nat → List Tk → Prop
  | a, [] => (nextR l a).err = 0 ∧ (nextR l a).kind = 0
  | a, t :: ts => (nextR l a).err = 0 ∧ (nextR l a).kind ≠ 0 ∧ t = tkOf (nextI l a) (nextR l a) ∧ ChainT l (nextI l a + (nextR l a).len) ts
theorem cons_err {t : Tk} {r : Up} (h : (consT t r).2.2 = 0) : r.2.2 = 0 ∧ consT t r = (t :: r.1, r.2) := by
  unfold consT at h ⊢
  by_cases h2 : r.2.2 = 0
  · rw [if_pos h2]; exact ⟨h2, rfl⟩
  · rw [if_neg h2] at h; exact absurd h h2
theorem chain_of (n : Nat) : ∀ (l : List UInt8) (a : Nat), a ≤ l.length → l.length < n + a → (uptoN n l a).2.2 = 0 → ChainT l a (uptoN n l a).1 := by
  induction n with
  | zero => intro l a h h2; omega
  | succ n ih =>
    intro l a h h2 h3
    by_cases he : (nextR l a).err = 0
    · by_cases hk : (nextR l a).kind = 0
      · rw [upto_end he hk]; exact ⟨he, hk⟩
      · rw [upto_more he hk] at h3 ⊢
        obtain ⟨n1, n2, n3⟩ := next_some h he hk
        have n4 := (next_le l a h).1
        obtain ⟨c1, c2⟩ := cons_err h3
        rw [c2]
        exact ⟨he, hk, rfl, ih l _ n3 (by omega) c1⟩
    · rw [upto_bad he] at h3; exact absurd h3 he
theorem cons_bad {t : Tk} {r : Up} (h : (consT t r).2.2 ≠ 0) : consT t r = r := by
  unfold consT at h ⊢
  by_cases h2 : r.2.2 = 0
  · rw [if_pos h2] at h; exact absurd h2 h
  · rw [if_neg h2]
/-- Where there is an error: no tokens, and its place is that of a byte that is neither white nor a comment's. -/
theorem upto_err (n : Nat) : ∀ (l : List UInt8) (a : Nat), a ≤ l.length → (uptoN n l a).2.2 ≠ 0 → (uptoN n l a).1 = [] ∧ ∃ p : Nat, (uptoN n l a).2.1 = (p : Int) ∧ p < l.length ∧ nextI l p = p := by
  induction n with
  | zero => intro l a h h3; rw [upto_zero] at h3; exact absurd rfl h3
  | succ n ih =>
    intro l a h h3
    by_cases he : (nextR l a).err = 0
    · by_cases hk : (nextR l a).kind = 0
      · rw [upto_end he hk] at h3; exact absurd rfl h3
      · rw [upto_more he hk] at h3 ⊢
        obtain ⟨n1, n2, n3⟩ := next_some h he hk
        have hcb := cons_bad h3
        rw [hcb] at h3 ⊢
        exact ih l _ n3 h3
    · rw [upto_bad he]
      refine ⟨rfl, nextI l a, rfl, ?_, ?_⟩
      · rcases Nat.lt_or_ge (nextI l a) l.length with h1 | h1
        · exact h1
        · rw [next_end h1] at he; exact absurd rfl he
      · have := skip_idem (l.drop a)
        rw [List.drop_drop] at this
        show nextI l a + skipN false (l.drop (nextI l a)) = nextI l a
        unfold nextI
        rw [this]
        rfl
theorem chain_end {l : List UInt8} {a : Nat} (ha : a ≤ l.length) (h : ChainT l a []) : nextI l a = l.length := by
  obtain ⟨h1, h2⟩ := h
  have h3 := (next_le l a ha).2
  rcases Nat.lt_or_ge (nextI l a) l.length with h4 | h4
  · exfalso
    obtain ⟨c, t, e, hw, h37⟩ := next_head ha h4
    have e2 : nextR l a = tokR (c :: t) := by unfold nextR; rw [e]
    rw [e2] at h1 h2
    exact (tok_take c t hw h37 h1).2.2.1 h2
  · omega
/-- A token, and its bytes alone. -/
theorem chain_alone {l : List UInt8} {a : Nat} (ha : a ≤ l.length) (he : (nextR l a).err = 0) (hk : (nextR l a).kind ≠ 0) :
    nextI ((l.drop (nextI l a)).take (nextR l a).len) 0 = 0 ∧ nextR ((l.drop (nextI l a)).take (nextR l a).len) 0 = nextR l a := by
  obtain ⟨n1, n2, n3⟩ := next_some ha he hk
  obtain ⟨c, t, e, hw, h37⟩ := next_head ha n1
  have e2 : nextR l a = tokR (c :: t) := by unfold nextR; rw [e]
  rw [e2] at he
  obtain ⟨t1, t2, t3, t4⟩ := tok_take c t hw h37 he
  rw [e, e2]
  have h0 : nextI ((c :: t).take (tokR (c :: t)).len) 0 = 0 := by
    obtain ⟨q, hq⟩ : ∃ q, (tokR (c :: t)).len = q + 1 := ⟨(tokR (c :: t)).len - 1, by omega⟩
    rw [hq, List.take_succ_cons]
    unfold nextI
    rw [List.drop_zero, skipN_stop _ hw h37]
  refine ⟨h0, ?_⟩
  unfold nextR
  rw [h0, List.drop_zero, t4]
end Go.Proofs.YtdpbpdikgcepbaaGreatDoor.Lex
