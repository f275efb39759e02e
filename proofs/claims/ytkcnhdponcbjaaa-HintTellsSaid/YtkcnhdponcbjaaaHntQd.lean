/-
  The document's Text: the writer's contracts as states, and the states in its order.
-/
import Derived.Test.YtkcnhdponcbjaaaHntQc
import Derived.Test.YtkcnhdponcbjaaaHntP
namespace Go.Proofs.Ytkcnhdponcbjaaa
open Go.RowKit Bt Hnt

/-- What the document's writer g holds behind calls on it, the world w before them. -/
def QroteS (B : Nat) (w : World) (g : Nat) (st : St) (w' : World) : Prop := Wrote 71 B w g none st.1 st.2.1 st.2.2 w'
theorem QroteS.more {B : Nat} {w w1 w2 : World} {g : Nat} {st : St} (h : QroteS B w g st w1) (hb : Below w1.heap.size w1 w2) : QroteS B w g st w2 := by
  obtain ⟨r', hr, hw, ht⟩ := h
  exact ⟨r', hr, hw.grown (below_grown hb) (by simp) (by cases r' <;> simp), ht.grown (below_grown hb) (Or.inr (Or.inl rfl))⟩
theorem QroteS.below {B : Nat} {W w : World} {g : Nat} {st : St} (h : QroteS B W g st w) {N : Nat} (hN : N ≤ g) (hs : N ≤ W.heap.size) : Below N W w := by
  obtain ⟨_, _, _, ht⟩ := h
  exact ht.below hs hN (fun k e => by cases e)
theorem QroteS.drew {B : Nat} {w w1 : World} {g : Nat} {st : St} (h : QroteS B w g st w1) : QroteS B w g st w1.drew :=
  h.more ((Below.refl _ _).drew)
theorem qput_any (B g : Nat) (st : St) (v n : Int) (W w : World) (hB : B ≤ W.heap.size) (h : QroteS B W g st w) (hg : good st) (hl : st.1.length ≤ 900000)
    (hv : 0 ≤ v) (hn : 0 ≤ n) (hn2 : n ≤ 24) (hlt : v < 2 ^ n.toNat) :
    Calls Try.prog 24 #[.pointer (some ⟨g, 0, none⟩), .int .i64 v, .int .i64 n] w fun e w' => e = .returned (.int .i64 0) ∧ QroteS B W g (put st v n) w' := by
  obtain ⟨r, hr, hw, ht⟩ := h
  have hbad := wbad_in hg.2 hv hn hn2 hlt
  have hE : wrE st.2.2 v n 2 = 0 := by unfold wrE; rw [hbad]; rfl
  refine (vhigh_c B g r st.1 _ st.2.1 _ st.2.2 v n 0 _ w hl (Nat.le_trans hB ht.size) hw hg.1 hE rfl rfl rfl).mono ?_
  rintro e w' ⟨rfl, h⟩
  exact ⟨rfl, Wrote.then hr ht h⟩
theorem qalign_any' (B g : Nat) (st : St) (W w : World) (h : QroteS B W g st w) :
    Calls Try.prog 26 #[.pointer (some ⟨g, 0, none⟩)] w fun e w' => e = .returned (.tuple #[]) ∧ QroteS B W g (aln st) w' := by
  obtain ⟨r, hr, hw, ht⟩ := h
  refine (valign_any B g r st.1 st.2.1 st.2.2 w hw).mono ?_
  rintro e w' ⟨rfl, h⟩
  exact ⟨rfl, Wrote.then hr ht h⟩
theorem qtext_any (B g : Nat) (st : St) (W w : World) (h : QroteS B W g st w) :
    Calls Try.prog 28 #[.pointer (some ⟨g, 0, none⟩)] w fun e w' => e = .returned (.string ⟨st.1.toArray⟩) ∧ w = w' := by
  obtain ⟨r, hr, hw, ht⟩ := h
  exact vtext_any B g r st.1 st.2.1 st.2.2 w hw

/-! ### The states in the document's order: it aligns before each column, too. -/
/-- Two states that differ in the order alone. -/
def Alike (a b : St) : Prop := a.1 = b.1 ∧ a.2.1 = b.2.1 ∧ (a.2.2 = 0 ∨ a.2.2 = 2) ∧ (b.2.2 = 0 ∨ b.2.2 = 2)
theorem Alike.put {a b : St} (h : Alike a b) {v n : Int} (hv : 0 ≤ v) (hn : 0 ≤ n) (hn2 : n ≤ 24) (hlt : v < 2 ^ n.toNat) : Alike (Hnt.put a v n) (Hnt.put b v n) := by
  obtain ⟨h1, h2, h3, h4⟩ := h
  have wa := wbad_in h3 hv hn hn2 hlt
  have wb := wbad_in h4 hv hn hn2 hlt
  obtain ⟨_, a1, a2, a3⟩ := wr_ok wa a.1 a.2.1
  obtain ⟨_, b1, b2, b3⟩ := wr_ok wb b.1 b.2.1
  refine ⟨?_, ?_, ?_, ?_⟩
  · show wrL a.1 a.2.1 a.2.2 v n 2 = wrL b.1 b.2.1 b.2.2 v n 2
    rw [a1, b1, h1, h2]
  · show wrP a.2.1 a.2.2 v n 2 = wrP b.2.1 b.2.2 v n 2
    rw [a2, b2, h2]
  · show wrO a.2.2 v n 2 = 0 ∨ wrO a.2.2 v n 2 = 2
    rw [a3]
    split
    · exact Or.inr rfl
    · exact h3
  · show wrO b.2.2 v n 2 = 0 ∨ wrO b.2.2 v n 2 = 2
    rw [b3]
    split
    · exact Or.inr rfl
    · exact h4
theorem Alike.col {l : List H3} (h : allOk l) (hne : l ≠ []) {c : Nat} (hc : c < 3) {a b : St} (hab : Alike a b) : ∀ k, k ≤ l.length → Alike (colS c (lst c l) (wdt c l) l a k) (colS c (lst c l) (wdt c l) l b k)
  | 0, _ => hab
  | k + 1, hk => by
    have ih := Alike.col h hne hc hab k (by omega)
    have h2 := diff_in (List.getElem_mem (show k < l.length by omega)) c
    have h3 := wdt_le h hne hc
    show Alike (Hnt.put _ _ _) (Hnt.put _ _ _)
    exact ih.put (by rw [getD_in (by omega)]; exact h2.1) (by omega) (by omega) (by rw [getD_in (by omega), two_nat]; exact h2.2)
theorem Alike.aln {a b : St} (h : Alike a b) : Hnt.aln a = Hnt.aln b := by
  unfold Hnt.aln
  rw [h.1]
/-- The states of the document: aligned, and the first k columns. -/
def qcolS (l : List H3) : Nat → St
  | 0 => wdtS l
  | c + 1 => colS c (lst c l) (wdt c l) l (aln (qcolS l c)) l.length
theorem qcols_eq {l : List H3} (h : allOk l) (hne : l ≠ []) (hl : l.length ≤ 2048) : ∀ c, c < 3 → aln (qcolS l (c + 1)) = colsS l (wdtS l) (c + 1)
  | 0, _ => by
    obtain ⟨b, hb, _⟩ := head_16 h hne hl
    have g := good_wd h hne hl 3 (Nat.le_refl _)
    have e2 : (wdtS l).2.1 = 0 := by
      have u2 := wdt_le h hne (c := 2) (by omega)
      have u1 := wdt_le h hne (c := 1) (by omega)
      have u0 := wdt_le h hne (c := 0) (by omega)
      unfold wdtS
      rw [hb, put_wd (by omega), put_wd (by omega), put_wd (by omega)]
    have hab : Alike (aln (wdtS l)) (wdtS l) := ⟨rfl, e2.symm, Or.inl rfl, g.2⟩
    exact (Alike.col h hne (by omega) hab l.length (Nat.le_refl _)).aln
  | c + 1, hc => by
    have ih := qcols_eq h hne hl c (by omega)
    show aln (colS (c + 1) (lst (c + 1) l) (wdt (c + 1) l) l (aln (qcolS l (c + 1))) l.length) = aln (colS (c + 1) (lst (c + 1) l) (wdt (c + 1) l) l (colsS l (wdtS l) (c + 1)) l.length)
    rw [ih]
theorem qtext_eq {l : List H3} (h : allOk l) (hne : l ≠ []) (hl : l.length ≤ 2048) : (aln (qcolS l 3)).1 = textS l := by
  rw [qcols_eq h hne hl 2 (by omega)]
  rfl
theorem good_qcol {l : List H3} (h : allOk l) (hne : l ≠ []) (hl : l.length ≤ 2048) : ∀ c, c ≤ 3 → good (qcolS l c)
  | 0, _ => good_wd h hne hl 3 (Nat.le_refl _)
  | c + 1, hc => good_col h hne (by omega) (good_aln _) l.length (Nat.le_refl _)
theorem qcol_len (l : List H3) : ∀ c, (qcolS l c).1.length ≤ 300 + 24 * l.length * c
  | 0 => by have := wd_len l 3; show (wdS l 3).1.length ≤ _; omega
  | c + 1 => by
    have h1 := qcol_len l c
    have h2 := col_len c (lst c l) (wdt c l) l (aln (qcolS l c)) l.length
    have h3 : (aln (qcolS l c)).1.length = (qcolS l c).1.length := rfl
    show (colS c (lst c l) (wdt c l) l (aln (qcolS l c)) l.length).1.length ≤ _
    rw [Nat.mul_succ]
    omega
end Go.Proofs.Ytkcnhdponcbjaaa
