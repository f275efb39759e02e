/-
  The document's Read in plain functions: what it decodes, and that it answers as the program does.
-/
import Derived.Test.YtkcnhdponcbjaaaHntQf
namespace Go.Proofs.Ytkcnhdponcbjaaa
open Bt Hnt

def colQ (s : ByteArray) (c : Nat) (x w : Int) : Nat → Nat → List H3 → RS → List H3 × RS
  | 0, _, rows, r => (rows, r)
  | m + 1, k, rows, r => colQ s c x w m (k + 1) (rows.set k (setC c (x + tkV s r w) (rows.getD k (0, 0, 0)))) (tkS s r w)
theorem colQ_len {s : ByteArray} {c : Nat} {x w : Int} : ∀ (m k : Nat) (rows : List H3) (r : RS), (colQ s c x w m k rows r).1.length = rows.length
  | 0, _, _, _ => rfl
  | m + 1, k, rows, r => by
    show (colQ s c x w m (k + 1) _ _).1.length = _
    rw [colQ_len m, List.length_set]
theorem colQ_le {s : ByteArray} {c : Nat} {x w : Int} : ∀ (m k : Nat) (rows : List H3) (r : RS), r.1 ≤ 8 * s.size → (colQ s c x w m k rows r).2.1 ≤ 8 * s.size
  | 0, _, _, _, h => h
  | m + 1, k, _, _, h => colQ_le m (k + 1) _ _ (tkS_le h)
theorem colQ_run {s : ByteArray} {c : Nat} {x w : Int} : ∀ (m k : Nat) (rows : List H3) (r : RS) (out : List H3 × RS), colRun s c x w m k rows r = some out → colQ s c x w m k rows r = out
  | 0, _, rows, r, out, h => by
    unfold colRun at h
    injection h with h
  | m + 1, k, rows, r, out, h => by
    unfold colRun at h
    by_cases e : tkE s r w = 0
    · rw [if_pos e] at h
      exact colQ_run m (k + 1) _ _ out h
    · rw [if_neg e] at h; cases h
/-- Two places that differ in the order alone. -/
def Near2 (r q : RS) : Prop := r.1 = q.1 ∧ (r.2 = 0 ∨ r.2 = 2) ∧ (q.2 = 0 ∨ q.2 = 2)
theorem bad_near {r q : RS} (h : Near2 r q) (n : Int) : bad r.2 n 2 = bad q.2 n 2 := by
  obtain ⟨_, h2, h3⟩ := h
  unfold bad
  rcases h2 with e | e <;> rcases h3 with e' | e' <;> rw [e, e'] <;> simp
theorem tk_near {s : ByteArray} {r q : RS} (h : Near2 r q) (n : Int) : tkE s r n = tkE s q n ∧ tkV s r n = tkV s q n ∧ Near2 (tkS s r n) (tkS s q n) := by
  have hb := bad_near h n
  have hE : tkE s r n = tkE s q n := by
    unfold tkE rdE
    rw [hb, h.1]
  refine ⟨hE, ?_, ?_⟩
  · unfold tkE at hE
    unfold tkV rdV
    rw [hE, h.1]
  · unfold tkE at hE
    unfold tkS rdAt rdOrd
    rw [hE, h.1]
    refine ⟨rfl, ?_, ?_⟩
    · dsimp
      split
      · exact Or.inr rfl
      · exact h.2.1
    · dsimp
      split
      · exact Or.inr rfl
      · exact h.2.2
theorem colQ_near {s : ByteArray} {c : Nat} {x w : Int} : ∀ (m k : Nat) (rows : List H3) (r q : RS), Near2 r q → (colQ s c x w m k rows r).1 = (colQ s c x w m k rows q).1 ∧ (colQ s c x w m k rows r).2.1 = (colQ s c x w m k rows q).2.1
  | 0, _, _, _, _, h => ⟨rfl, h.1⟩
  | m + 1, k, rows, r, q, h => by
    obtain ⟨_, h2, h3⟩ := tk_near (s := s) h w
    unfold colQ
    rw [h2]
    exact colQ_near m (k + 1) _ _ _ h3
/-- Where the columns are decoded from: the count, the least numbers, the widths and the place behind them. -/
def qHead (s : ByteArray) : Int × H3 × H3 × RS :=
  let r1 := longS2 s (0, 0)
  let r2 := longS2 s r1
  let r3 := longS2 s r2
  let r4 := longS2 s r3
  let r5 := tkS s r4 16
  let r6 := tkS s r5 16
  (longV2 s (0, 0), (longV2 s r1, longV2 s r2, longV2 s r3), (tkV s r4 16, tkV s r5 16, tkV s r6 16), tkS s r6 16)
def qBad (n : Int) (W : H3) : Prop := n < 1 ∨ 2048 < n ∨ 24 < W.1 ∨ 24 < W.2.1 ∨ 24 < W.2.2
instance (n : Int) (W : H3) : Decidable (qBad n W) := by unfold qBad; infer_instance
def qCols (s : ByteArray) (p : Nat) (A W : H3) (r : RS) : List H3 :=
  let u := colQ s 0 A.1 W.1 p 0 (List.replicate p (0, 0, 0)) (alg r.1, 0)
  let v := colQ s 1 A.2.1 W.2.1 p 0 u.1 (alg u.2.1, 0)
  (colQ s 2 A.2.2 W.2.2 p 0 v.1 (alg v.2.1, 0)).1
def decQ (s : ByteArray) : Option (List H3) :=
  let h := qHead s
  if qBad h.1 h.2.2.1 then none else some (qCols s h.1.toNat h.2.1 h.2.2.1 h.2.2.2)
theorem tk_16 {s : ByteArray} {r : RS} (h : tkE s r 16 = 0) : tkS s r 16 = (r.1 + 16, 2) := by
  unfold tkE at h
  unfold tkS rdAt rdOrd
  rw [if_pos h, if_pos ⟨h, by decide⟩]
  rfl
theorem long_eq {s : ByteArray} {r r' : RS} {v : Int} (h : longR s r = some (v, r')) : longV2 s r = v ∧ longS2 s r = r' ∧ (r' = (r.1 + 32, 2)) := by
  unfold longR at h
  by_cases h1 : tkE s r 16 = 0
  · rw [if_pos h1] at h
    by_cases h2 : 16 < tkV s r 16
    · rw [if_pos h2] at h; cases h
    · rw [if_neg h2] at h
      by_cases h3 : tkE s (tkS s r 16) 16 = 0
      · rw [if_pos h3] at h
        injection h with h
        injection h with h4 h5
        have e1 := tk_16 h1
        have e2 := tk_16 h3
        refine ⟨by unfold longV2; omega, h5, ?_⟩
        rw [← h5, e2, e1]
      · rw [if_neg h3] at h; cases h
  · rw [if_neg h1] at h; cases h
theorem tk_24 {s : ByteArray} {r : RS} {n : Int} (h : tkE s r n = 0) : n ≤ 24 := by
  by_cases hb : bad r.2 n 2 = true
  · have := (rd_bad (l := []) (tot := 8 * s.size) (at_ := r.1) hb).1
    unfold tkE at h
    rw [this] at h
    exact absurd h (by decide)
  · exact (bad_no (by simpa using hb)).2.1
theorem col_24 {s : ByteArray} {c p : Nat} {x w : Int} {rows : List H3} {r : RS} {out : List H3 × RS} (hp : 0 < p) (h : colRun s c x w p 0 rows r = some out) : w ≤ 24 := by
  obtain ⟨q, rfl⟩ : ∃ q, p = q + 1 := ⟨p - 1, by omega⟩
  unfold colRun at h
  by_cases e : tkE s r w = 0
  · exact tk_24 e
  · rw [if_neg e] at h; cases h
theorem rL_some {s : ByteArray} {p m c : Nat} {A : H3} {r : RS} {out : List H3} (h : rL s p (m + 1) c A r = some out) : ∃ v r', longR s r = some (v, r') ∧ rL s p m (c + 1) (setC c v A) r' = some out := by
  unfold rL at h
  split at h
  · cases h
  · rename_i v r' e
    exact ⟨v, r', e, h⟩
theorem rW_some {s : ByteArray} {p m c : Nat} {A W : H3} {r : RS} {out : List H3} (h : rW s p (m + 1) c A W r = some out) : tkE s r 16 = 0 ∧ rW s p m (c + 1) A (setC c (tkV s r 16) W) (tkS s r 16) = some out := by
  unfold rW at h
  by_cases e : tkE s r 16 = 0
  · rw [if_pos e] at h; exact ⟨e, h⟩
  · rw [if_neg e] at h; cases h
theorem rC_some {s : ByteArray} {p m c : Nat} {A W : H3} {rows : List H3} {r : RS} {out : List H3} (h : rC s p (m + 1) c A W rows r = some out) : ∃ u, colRun s c (clm c A) (clm c W) p 0 rows r = some u ∧ rC s p m (c + 1) A W u.1 (alg u.2.1, 0) = some out := by
  unfold rC at h
  split at h
  · cases h
  · rename_i rows' r' e
    exact ⟨(rows', r'), e, h⟩
/-- What the program decodes is what the document decodes. -/
theorem dec_same {s : ByteArray} {l : List H3} (h : decH s = some l) (hne : l ≠ []) : decQ s = some l := by
  unfold decH at h
  split at h
  · cases h
  · rename_i p r hp
    split at h
    · cases h
    · rename_i hp2
      have hlen := rL_len _ _ _ _ _ h
      have hp0 : 0 < p.toNat := by rw [← hlen]; exact List.length_pos_iff.2 hne
      obtain ⟨v0, r1, e0, h⟩ := rL_some h
      obtain ⟨v1, r2, e1, h⟩ := rL_some h
      obtain ⟨v2, r3, e2, h⟩ := rL_some h
      obtain ⟨f0, h⟩ := rW_some (show rW s p.toNat 3 0 _ (0, 0, 0) r3 = some l from h)
      obtain ⟨f1, h⟩ := rW_some h
      obtain ⟨f2, h⟩ := rW_some h
      obtain ⟨u0, g0, h⟩ := rC_some (show rC s p.toNat 3 0 _ _ (List.replicate p.toNat (0, 0, 0)) _ = some l from h)
      obtain ⟨u1, g1, h⟩ := rC_some h
      obtain ⟨u2, g2, h⟩ := rC_some h
      have hl : u2.1 = l := by
        unfold rC at h
        injection h
      obtain ⟨a1, a2, a3⟩ := long_eq hp
      obtain ⟨b1, b2, b3⟩ := long_eq e0
      obtain ⟨c1, c2, c3⟩ := long_eq e1
      obtain ⟨d1, d2, d3⟩ := long_eq e2
      have s0 := tk_16 f0
      have s1 := tk_16 f1
      have s2 := tk_16 f2
      have k0 := col_24 hp0 g0
      have k1 := col_24 hp0 g1
      have k2 := col_24 hp0 g2
      have hh : qHead s = (p, (v0, v1, v2), (tkV s r3 16, tkV s (tkS s r3 16) 16, tkV s (tkS s (tkS s r3 16) 16) 16), tkS s (tkS s (tkS s r3 16) 16) 16) := by
        unfold qHead
        simp only [a1, a2, b1, b2, c1, c2, d1, d2]
      have hpl : tkS s (tkS s (tkS s r3 16) 16) 16 = (176, 2) := by
        rw [s2, s1, s0, d3, c3, b3, a3]
      have hQ0 := colQ_near (s := s) (c := 0) (x := v0) (w := tkV s r3 16) p.toNat 0 (List.replicate p.toNat (0, 0, 0)) (alg (tkS s (tkS s (tkS s r3 16) 16) 16).1, 0) (tkS s (tkS s (tkS s r3 16) 16) 16) ⟨by rw [hpl]; rfl, Or.inl rfl, by rw [hpl]; exact Or.inr rfl⟩
      have hu0 := colQ_run _ _ _ _ _ g0
      have hu1 := colQ_run _ _ _ _ _ g1
      have hu2 := colQ_run _ _ _ _ _ g2
      have hu0' : colQ s 0 v0 (tkV s r3 16) p.toNat 0 (List.replicate p.toNat (0, 0, 0)) (tkS s (tkS s (tkS s r3 16) 16) 16) = u0 := hu0
      have hu1' : colQ s 1 v1 (tkV s (tkS s r3 16) 16) p.toNat 0 u0.1 (alg u0.2.1, 0) = u1 := hu1
      have hu2' : colQ s 2 v2 (tkV s (tkS s (tkS s r3 16) 16) 16) p.toNat 0 u1.1 (alg u1.2.1, 0) = u2 := hu2
      rw [hu0'] at hQ0
      unfold decQ
      rw [hh]
      show (if qBad p (tkV s r3 16, tkV s (tkS s r3 16) 16, tkV s (tkS s (tkS s r3 16) 16) 16) then none else some (qCols s p.toNat (v0, v1, v2) (tkV s r3 16, tkV s (tkS s r3 16) 16, tkV s (tkS s (tkS s r3 16) 16) 16) (tkS s (tkS s (tkS s r3 16) 16) 16))) = some l
      have nb : ¬ qBad p (tkV s r3 16, tkV s (tkS s r3 16) 16, tkV s (tkS s (tkS s r3 16) 16) 16) := by
        have k0' : tkV s r3 16 ≤ 24 := k0
        have k1' : tkV s (tkS s r3 16) 16 ≤ 24 := k1
        have k2' : tkV s (tkS s (tkS s r3 16) 16) 16 ≤ 24 := k2
        unfold qBad
        dsimp
        omega
      rw [if_neg nb]
      unfold qCols
      dsimp only
      rw [hQ0.1, hQ0.2, hu1', hu2', hl]
def readQ (s : ByteArray) : Int × List H3 := match decQ s with
  | none => (32, [])
  | some l => if textE l = 0 ∧ textB l = s.data.toList then (0, l) else (32, [])
/-- The document's Read answers as the program's. -/
theorem readQ_eq (s : ByteArray) : readQ s = (readE s, readL s) := by
  unfold readQ
  rcases readE_in s with e | e
  · obtain ⟨h1, h2, h3⟩ := read_text e
    obtain ⟨h0, _, _⟩ := textE_zero h2
    rw [dec_same h1 h0, e]
    show (if textE (readL s) = 0 ∧ textB (readL s) = s.data.toList then _ else _) = _
    rw [if_pos ⟨h2, h3⟩]
  · rw [readL_no (by rw [e]; decide), e]
    split
    · rfl
    · rename_i l hl
      rw [if_neg]
      rintro ⟨h1, h2⟩
      have := (read_back h1 h2.symm).1
      rw [e] at this
      exact absurd this (by decide)
end Go.Proofs.Ytkcnhdponcbjaaa
