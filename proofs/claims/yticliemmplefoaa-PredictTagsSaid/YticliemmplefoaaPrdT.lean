/-
  predict's coders as the walk over rows asks of them.
-/
import Derived.Test.YticliemmplefoaaPrdR
namespace Go.Proofs.Yticliemmplefoaa
open Go.RowKit Oct Prd

theorem IsRow.two {W W' : World} {v : Value} {l : List UInt8} {bn : Nat} (h : IsRow W v l) (hT : Two W W' bn none) (hne : ∀ A n C, v = .slice (some A) n C → A.block ≠ bn) : IsRow W' v l := by
  obtain ⟨A, C, rfl, h2⟩ := h
  refine ⟨A, C, rfl, fun j hj => ?_⟩
  obtain ⟨b, o, h3, h4⟩ := h2 j hj
  refine ⟨b, o, h3, ?_⟩
  rw [← h4]
  have hlt := World.block_lt_of_cell? W _ h4
  exact World.cell?_of_block (hT.block b hlt (by have := hne _ _ _ (by rw [h3]); exact this) (by simp))
/-- A row of bytes does not lie where a coder keeps the row before. -/
theorem row_not_box {W : World} {b o n C bn : Nat} {pv : Value} {l prev : List UInt8} (h : IsRow W (.slice (some ⟨b, o, none⟩) n C) l) (hl : 0 < l.length) (hb : Blk W bn 42 #[pv]) (hp : IsRow W pv prev) : b ≠ bn := by
  intro e
  subst e
  obtain ⟨b', o', C', h1, h2⟩ := h.at0 hl
  injection h1 with h3 h4 h5
  injection h3 with h6
  injection h6 with h7 h8
  subst h7 h8
  have h9 := h2 0 hl
  rw [Nat.add_zero, hb.cell] at h9
  obtain ⟨A, C2, rfl, _⟩ := hp
  cases o with
  | zero => simp at h9
  | succ o => simp at h9
theorem enc_spec (pr co cl n m bp ba bn : Nat) (l : List UInt8) (hpr : pr = 2 ∨ 10 ≤ pr ∧ pr ≤ 15) (hco1 : 1 ≤ co) (hco : co ≤ 8192) (hn1 : 1 ≤ n) (hn2 : n ≤ 8192) (hne : bp ≠ bn ∧ ba ≠ bn) (hl : l.length = n * m) :
    RowSpec 27 #[.pointer (some ⟨bp, 0, none⟩), .pointer (some ⟨bn, 0, none⟩), .pointer (some ⟨ba, 0, none⟩)] bp ba bn pr co cl n m l (fun k => some (prevR n l k, encR pr co n l k)) := by
  intro b k prev all pv W hk hst hC hrow
  simp only [Option.some.injEq, Prod.mk.injEq] at hst
  obtain ⟨rfl, rfl⟩ := hst
  have hrl := rowR_len hl hk
  have hpl : (prevR n l k).length ≤ n := by
    unfold prevR
    split
    · simp
    · rw [List.length_take]; omega
  have hbb := row_not_box hrow (by omega) hC.box hC.row
  show Calls Try.prog _ #[.slice (some ⟨b, n * k, none⟩) n n, .pointer (some ⟨bp, 0, none⟩), .pointer (some ⟨bn, 0, none⟩), .pointer (some ⟨ba, 0, none⟩)] W _
  refine (encode1_any bp ba bn pr co cl pv _ _ _ W hpr hco1 hco hne hC hrow (by omega) (by omega) (by omega)).mono ?_
  rintro e W' ⟨G, o, C, rfl, h1, h2, h3, h4, h5⟩
  refine .inl ⟨rowR n l k, encOne pr co (prevR n l k) (rowR n l k), _, by show some (prevR n l (k + 1), encR pr co n l (k + 1)) = _; rw [encR_succ, prevR_succ], by rw [encOne_len]; omega, by rw [encOne_len, hrl]; unfold tgs; split <;> omega, G, o, C, rfl, h1, h2, h3, h4, h5, ?_, ?_⟩
  · exact hrow.two h4 (fun A n C e => by injection e with e; injection e with e; rw [← e]; exact hbb)
  · intro A n C e
    injection e with e
    injection e with e
    rw [← e]
    exact .inl rfl
theorem dec_spec (pr co cl n q m bp ba bn : Nat) (l : List UInt8) (_hpr : pr = 2 ∨ 10 ≤ pr ∧ pr ≤ 15) (hco1 : 1 ≤ co) (hco : co ≤ 8192) (hn1 : 1 ≤ n) (hn2 : n ≤ 8192) (hq : n + tgs pr = q) (hne : bp ≠ bn ∧ ba ≠ bn) (hl : l.length = q * m) :
    RowSpec 29 #[.pointer (some ⟨bp, 0, none⟩), .pointer (some ⟨ba, 0, none⟩), .pointer (some ⟨bn, 0, none⟩)] bp ba bn pr co cl q m l (decR pr co q l) := by
  intro b k prev all pv W hk hst hC hrow
  have hrl := rowR_len hl hk
  show Calls Try.prog _ #[.slice (some ⟨b, q * k, none⟩) q q, .pointer (some ⟨bp, 0, none⟩), .pointer (some ⟨ba, 0, none⟩), .pointer (some ⟨bn, 0, none⟩)] W _
  by_cases h10 : pr < 10
  · have ht : tgs pr = 0 := by unfold tgs; rw [if_pos h10]
    have hT : tagIn pr (rowR q l k) = 1 := by unfold tagIn; rw [if_pos h10]
    refine (decode1_none bp ba bn pr co cl b (q * k) q pv prev _ W hco1 hco hne hC hrow (by omega) (by omega) hrl h10).mono ?_
    rintro e W' ⟨G, o, C, rfl, h1, h2, h3, h4, v, h5, h6, h7⟩
    refine .inl ⟨_, _, v, by rw [decR, hst]; simp only [hT, ht, List.drop_zero]; rfl, by rw [backR_len]; simp; omega, by rw [backR_len]; simp; omega, G, o, C, rfl, h1, h2, h3, h4, h5, h6, fun A n C e => .inr (h7 A n C e)⟩
  · have ht : tgs pr = 1 := by unfold tgs; rw [if_neg h10]
    obtain ⟨T, hT⟩ : ∃ T, (rAt (rowR q l k) 0).toNat = T := ⟨_, rfl⟩
    have hTI : tagIn pr (rowR q l k) = T := by unfold tagIn; rw [if_neg h10, hT]
    by_cases hT5 : T < 5
    · refine (decode1_tag bp ba bn pr co cl T (q - 1) b (q * k) q pv prev _ W hco1 hco hne hC hrow (by omega) (by omega) hrl h10 hT hT5 rfl).mono ?_
      rintro e W' ⟨G, o, C, rfl, h1, h2, h3, h4, v, h5, h6, h7⟩
      refine .inl ⟨_, _, v, by rw [decR, hst]; simp only [hTI, ht]; rw [if_neg (by omega)], by rw [backR_len, List.length_drop]; simp; omega, by rw [backR_len, List.length_drop]; simp; omega, G, o, C, rfl, h1, h2, h3, h4, h5, h6, fun A n C e => .inr (h7 A n C e)⟩
    · refine (decode1_bad bp ba bn pr co cl T b (q * k) q pv prev _ W hC hrow (by omega) hrl h10 hT (by omega)).mono ?_
      rintro e W' ⟨rfl, h1⟩
      exact .inr ⟨by rw [decR, hst]; simp only [hTI]; rw [if_pos (by omega)], rfl, h1⟩
end Go.Proofs.Yticliemmplefoaa
