/-
  Plain mathematics of the layer ascii: what its decoders and encoders compute, as functions on lists of bytes, and that the ones take back what the others make. No program in this text.
-/
import Derived.Test.YthioafndepkhoaaOctMath
namespace Go.Proofs.Ythioafndepkhoaa.Asc
open Go.Lib Oct

/-! ### Hexadecimal digits. -/
/-- At most m bytes; o: the bytes so far; h: a digit that waits for its second. -/
def hexD (m : Nat) : List UInt8 → Option UInt8 → List UInt8 → Int × List UInt8
  | _, _, [] => (4, [])
  | o, h, c :: t =>
    if whiteS c = true then hexD m o h t
    else if c = 62 then (if h = none then (0, o) else if m ≤ o.length then (5, []) else (0, o ++ [pairByte (h.getD 0) 48]))
    else if digitS c < 0 then (3, [])
    else if h = none then hexD m o (some c) t else if m ≤ o.length then (5, []) else hexD m (o ++ [pairByte (h.getD 0) c]) none t
theorem hexD_nil (m : Nat) (o : List UInt8) (h : Option UInt8) : hexD m o h [] = (4, []) := by rw [hexD]
theorem hexD_white {m : Nat} {o : List UInt8} {h : Option UInt8} {c : UInt8} (t : List UInt8) (hw : whiteS c = true) : hexD m o h (c :: t) = hexD m o h t := by rw [hexD, if_pos hw]
theorem hexD_end {m : Nat} {o : List UInt8} (t : List UInt8) : hexD m o none (62 :: t) = (0, o) := by rw [hexD, if_neg (by decide), if_pos rfl, if_pos rfl]
theorem hexD_half {m : Nat} {o : List UInt8} {d : UInt8} (t : List UInt8) : hexD m o (some d) (62 :: t) = if m ≤ o.length then (5, []) else (0, o ++ [pairByte d 48]) := by rw [hexD, if_neg (by decide), if_pos rfl, if_neg (by simp)]; rfl
theorem hexD_bad {m : Nat} {o : List UInt8} {h : Option UInt8} {c : UInt8} (t : List UInt8) (hw : whiteS c = false) (h62 : c ≠ 62) (hd : digitS c < 0) : hexD m o h (c :: t) = (3, []) := by
  rw [hexD, if_neg (by rw [hw]; decide), if_neg h62, if_pos hd]
theorem hexD_one {m : Nat} {o : List UInt8} {c : UInt8} (t : List UInt8) (hw : whiteS c = false) (h62 : c ≠ 62) (hd : 0 ≤ digitS c) : hexD m o none (c :: t) = hexD m o (some c) t := by
  rw [hexD, if_neg (by rw [hw]; decide), if_neg h62, if_neg (by omega), if_pos rfl]
theorem hexD_two {m : Nat} {o : List UInt8} {d c : UInt8} (t : List UInt8) (hw : whiteS c = false) (h62 : c ≠ 62) (hd : 0 ≤ digitS c) : hexD m o (some d) (c :: t) = if m ≤ o.length then (5, []) else hexD m (o ++ [pairByte d c]) none t := by
  rw [hexD, if_neg (by rw [hw]; decide), if_neg h62, if_neg (by omega), if_neg (by simp)]; rfl
theorem dig_plain (c : UInt8) (h : 0 ≤ digitS c) : whiteS c = false ∧ c ≠ 62 := by
  revert h
  exact of_decide_eq_true (all_bytes (fun c => decide (0 ≤ digitS c → whiteS c = false ∧ c ≠ 62)) (by decide +kernel) c)
theorem hexd_pair (c : UInt8) : 0 ≤ digitS (hexd (c.toNat / 16)) ∧ 0 ≤ digitS (hexd (c.toNat % 16)) ∧ pairByte (hexd (c.toNat / 16)) (hexd (c.toNat % 16)) = c := by
  obtain ⟨h1, h2, h3⟩ := hexd_digit c
  exact ⟨by rw [h1]; omega, by rw [h2]; omega, h3⟩
theorem hexD_hex (m : Nat) (r : List UInt8) : ∀ (l o : List UInt8), o.length + l.length ≤ m → hexD m o none (hexS l ++ r) = hexD m (o ++ l) none r
  | [], o, _ => by rw [List.append_nil]; rfl
  | c :: t, o, h => by
    obtain ⟨h1, h2, h3⟩ := hexd_pair c
    have hl : (c :: t).length = t.length + 1 := rfl
    show hexD m o none (hexd (c.toNat / 16) :: hexd (c.toNat % 16) :: (hexS t ++ r)) = _
    rw [hexD_one _ (dig_plain _ h1).1 (dig_plain _ h1).2 h1, hexD_two _ (dig_plain _ h2).1 (dig_plain _ h2).2 h2, if_neg (by omega), h3, hexD_hex m r t (o ++ [c]) (by rw [List.length_append]; simp; omega), List.append_assoc]
    rfl
theorem hexD_long (m : Nat) (r : List UInt8) : ∀ (l o : List UInt8), o.length ≤ m → m < o.length + l.length → hexD m o none (hexS l ++ r) = (5, [])
  | [], o, h1, h2 => by simp at h2; omega
  | c :: t, o, h1, h2 => by
    obtain ⟨d1, d2, d3⟩ := hexd_pair c
    have hl : (c :: t).length = t.length + 1 := rfl
    show hexD m o none (hexd (c.toNat / 16) :: hexd (c.toNat % 16) :: (hexS t ++ r)) = _
    rw [hexD_one _ (dig_plain _ d1).1 (dig_plain _ d1).2 d1, hexD_two _ (dig_plain _ d2).1 (dig_plain _ d2).2 d2, d3]
    by_cases h : m ≤ o.length
    · rw [if_pos h]
    · rw [if_neg h]
      exact hexD_long m r t (o ++ [c]) (by rw [List.length_append]; simp; omega) (by rw [List.length_append]; simp; omega)
theorem hexD_blank (m : Nat) {w : UInt8} (hw : whiteS w = true) (b : List UInt8) : ∀ (a o : List UInt8) (h : Option UInt8), hexD m o h (a ++ w :: b) = hexD m o h (a ++ b)
  | [], o, h => by rw [List.nil_append, List.nil_append, hexD_white _ hw]
  | c :: t, o, h => by
    rw [List.cons_append, List.cons_append, hexD, hexD]
    simp only [hexD_blank m hw b t]
/-- Two texts of the same digits are decoded alike. -/
def likeB (a b : UInt8) : Prop := whiteS a = whiteS b ∧ (a = 62 ↔ b = 62) ∧ digitS a = digitS b
theorem pair_like {a b c d : UInt8} (h1 : digitS a = digitS b) (h2 : digitS c = digitS d) : pairByte a c = pairByte b d := by unfold pairByte; rw [h1, h2]
inductive LikeL : List UInt8 → List UInt8 → Prop
  | nil : LikeL [] []
  | cons {a b : UInt8} {s t : List UInt8} : likeB a b → LikeL s t → LikeL (a :: s) (b :: t)
def likeO (p q : Option UInt8) : Prop := (p = none ↔ q = none) ∧ digitS (p.getD 0) = digitS (q.getD 0)
theorem hexD_like (m : Nat) {s t : List UInt8} (h : LikeL s t) : ∀ (o : List UInt8) (p q : Option UInt8), likeO p q → hexD m o p s = hexD m o q t := by
  induction h with
  | nil => intro o p q _; rw [hexD_nil, hexD_nil]
  | @cons a b s t hab _ ih =>
    intro o p q hpq
    obtain ⟨h1, h2, h3⟩ := hab
    have e1 : pairByte (p.getD 0) 48 = pairByte (q.getD 0) 48 := pair_like hpq.2 rfl
    have e2 : pairByte (p.getD 0) a = pairByte (q.getD 0) b := pair_like hpq.2 h3
    have e3 : ∀ o', hexD m o' none s = hexD m o' none t := fun o' => ih o' none none ⟨Iff.rfl, rfl⟩
    have e4 : ∀ o', hexD m o' (some a) s = hexD m o' (some b) t := fun o' => ih o' (some a) (some b) ⟨by simp, h3⟩
    rw [hexD, hexD, h1, h3, ih o p q hpq, e1, e2, e3, e4]
    simp only [h2, hpq.1]

/-! ### Digits of base 85. -/
def val5 (ds : List UInt8) : Nat := (ds ++ List.replicate (5 - ds.length) 84).foldl (fun (n : Nat) (d : UInt8) => 85 * n + d.toNat) 0
def bytes4 (n : Nat) : List UInt8 := [UInt8.ofNat (n / 16777216), UInt8.ofNat (n / 65536), UInt8.ofNat (n / 256), UInt8.ofNat n]
def lastD (m : Nat) (o ds : List UInt8) : Int × List UInt8 :=
  if ds = [] then (0, o) else if ds.length = 1 ∨ 4294967295 < val5 ds then (3, []) else if m < o.length + (ds.length - 1) then (5, []) else (0, o ++ (bytes4 (val5 ds)).take (ds.length - 1))
def tildeD (m : Nat) (o ds : List UInt8) : List UInt8 → Int × List UInt8
  | [] => (4, [])
  | d :: _ => if d = 62 then lastD m o ds else (3, [])
def fiveD (m : Nat) : List UInt8 → List UInt8 → List UInt8 → Int × List UInt8
  | _, _, [] => (4, [])
  | o, ds, c :: t =>
    if whiteS c = true then fiveD m o ds t
    else if c = 126 then tildeD m o ds t
    else if c = 122 ∧ ds = [] then (if m < o.length + 4 then (5, []) else fiveD m (o ++ [0, 0, 0, 0]) [] t)
    else if 33 ≤ c.toNat ∧ c.toNat ≤ 117 then
      (if ds.length < 4 then fiveD m o (ds ++ [c - 33]) t
        else if 4294967295 < val5 (ds ++ [c - 33]) then (3, []) else if m < o.length + 4 then (5, []) else fiveD m (o ++ bytes4 (val5 (ds ++ [c - 33]))) [] t)
    else (3, [])
/-- The number of up to four bytes, padded with zeros; its digits. -/
def val4 (l : List UInt8) : Nat := (l.take 4 ++ List.replicate (4 - l.length) 0).foldl (fun (n : Nat) (d : UInt8) => 256 * n + d.toNat) 0
def digs (n : Nat) : List UInt8 := [UInt8.ofNat (33 + n / 52200625 % 85), UInt8.ofNat (33 + n / 614125 % 85), UInt8.ofNat (33 + n / 7225 % 85), UInt8.ofNat (33 + n / 85 % 85), UInt8.ofNat (33 + n % 85)]
def five1 (l : List UInt8) : List UInt8 := if 4 ≤ l.length ∧ val4 l = 0 then [122] else (digs (val4 l)).take (min 4 l.length + 1)
def fiveE (l : List UInt8) : List UInt8 := if l = [] then [] else five1 l ++ fiveE (l.drop 4)
termination_by l.length
decreasing_by
  rename_i h
  have : 0 < l.length := List.length_pos_iff.2 h
  rw [List.length_drop]
  omega

/-! ### Runs. -/
def runD (m : Nat) (o : List UInt8) (l : List UInt8) : Int × List UInt8 :=
  match l with
  | [] => (4, [])
  | c :: t =>
    if c = 128 then (0, o)
    else if c.toNat < 128 then
      (if t.length < c.toNat + 1 then (4, []) else if m < o.length + (c.toNat + 1) then (5, []) else runD m (o ++ t.take (c.toNat + 1)) (t.drop (c.toNat + 1)))
    else if t = [] then (4, []) else if m < o.length + (257 - c.toNat) then (5, []) else runD m (o ++ List.replicate (257 - c.toNat) (t.headD 0)) (t.drop 1)
termination_by l.length
decreasing_by
  · simp only [List.length_drop, List.length_cons]; omega
  · simp only [List.length_drop, List.length_cons]; omega
/-- How many bytes are equal to the first, at most 128. -/
def eqN : List UInt8 → Nat
  | [] => 0
  | c :: t => min 128 (1 + (t.takeWhile (· == c)).length)
/-- How many bytes stand before the first run, at most k. -/
def litT : Nat → List UInt8 → Nat
  | 0, _ => 0
  | _, [] => 0
  | k + 1, c :: t => if 3 ≤ eqN (c :: t) then 0 else 1 + litT k t
theorem eqN_le (l : List UInt8) : eqN l ≤ l.length ∧ eqN l ≤ 128 := by
  cases l with
  | nil => exact ⟨Nat.le_refl _, by decide⟩
  | cons c t =>
    unfold eqN
    have := (List.takeWhile_prefix (l := t) (· == c)).length_le
    simp only [List.length_cons]
    omega
theorem eqN_pos {l : List UInt8} (h : l ≠ []) : 1 ≤ eqN l := by
  cases l with
  | nil => exact absurd rfl h
  | cons c t => show 1 ≤ min 128 (1 + (t.takeWhile (· == c)).length); omega
theorem litT_le (k : Nat) (l : List UInt8) : litT k l ≤ l.length ∧ litT k l ≤ k := by
  induction k generalizing l with
  | zero => exact ⟨Nat.zero_le _, Nat.le_refl _⟩
  | succ k ih =>
    cases l with
    | nil => exact ⟨Nat.le_refl _, Nat.zero_le _⟩
    | cons c t =>
      have := ih t
      unfold litT
      split
      · exact ⟨Nat.zero_le _, Nat.zero_le _⟩
      · simp only [List.length_cons]; omega
theorem litT_pos {k : Nat} {l : List UInt8} (hk : 0 < k) (h : l ≠ []) (he : eqN l < 3) : 1 ≤ litT k l := by
  cases k with
  | zero => omega
  | succ k =>
    cases l with
    | nil => exact absurd rfl h
    | cons c t => unfold litT; rw [if_neg (by omega)]; omega
def runE (l : List UInt8) : List UInt8 :=
  if l = [] then [] else if 3 ≤ eqN l then UInt8.ofNat (257 - eqN l) :: l.take 1 ++ runE (l.drop (eqN l)) else UInt8.ofNat (litT 128 l - 1) :: l.take (litT 128 l) ++ runE (l.drop (litT 128 l))
termination_by l.length
decreasing_by
  · rename_i h _
    have : 0 < l.length := List.length_pos_iff.2 h
    rw [List.length_drop]
    omega
  · rename_i h h3
    have h1 : 0 < l.length := List.length_pos_iff.2 h
    have h2 := litT_pos (k := 128) (by decide) h (by omega)
    rw [List.length_drop]
    omega

/-! ### What the encoders make is taken back: base 85. -/
theorem u8_small {n : Nat} (h : n < 256) : (UInt8.ofNat n).toNat = n := by rw [UInt8.toNat_ofNat']; omega
theorem digs_at (n : Nat) (h : n ≤ 4294967295) : ∀ d ∈ digs n, whiteS d = false ∧ d ≠ 126 ∧ d ≠ 122 ∧ 33 ≤ d.toNat ∧ d.toNat ≤ 117 := by
  have key : ∀ k, k < 85 → whiteS (UInt8.ofNat (33 + k)) = false ∧ UInt8.ofNat (33 + k) ≠ 126 ∧ UInt8.ofNat (33 + k) ≠ 122 ∧ 33 ≤ (UInt8.ofNat (33 + k)).toNat ∧ (UInt8.ofNat (33 + k)).toNat ≤ 117 := by decide +kernel
  intro d hd
  unfold digs at hd
  simp only [List.mem_cons, List.not_mem_nil, or_false] at hd
  rcases hd with rfl | rfl | rfl | rfl | rfl <;> exact key _ (Nat.mod_lt _ (by decide)) |> fun h => h
theorem digs_first (n : Nat) (h : n ≤ 4294967295) : n / 52200625 % 85 = n / 52200625 := Nat.mod_eq_of_lt (by omega)
theorem sub33 (k : Nat) (h : k < 85) : UInt8.ofNat (33 + k) - 33 = UInt8.ofNat k := by
  have key : ∀ k, k < 85 → UInt8.ofNat (33 + k) - 33 = UInt8.ofNat k := by decide +kernel
  exact key k h
/-- The digits of n, without the 33. -/
def digs0 (n : Nat) : List UInt8 := [UInt8.ofNat (n / 52200625 % 85), UInt8.ofNat (n / 614125 % 85), UInt8.ofNat (n / 7225 % 85), UInt8.ofNat (n / 85 % 85), UInt8.ofNat (n % 85)]
theorem digs_sub (n : Nat) : (digs n).map (· - 33) = digs0 n := by
  unfold digs digs0
  simp only [List.map_cons, List.map_nil]
  rw [sub33 _ (Nat.mod_lt _ (by decide)), sub33 _ (Nat.mod_lt _ (by decide)), sub33 _ (Nat.mod_lt _ (by decide)), sub33 _ (Nat.mod_lt _ (by decide)), sub33 _ (Nat.mod_lt _ (by decide))]
/-- What up to four digits of a number stand for: the number itself, but for less than the place that is missing. -/
theorem val_digs (n k : Nat) (h : n ≤ 4294967295) (hk : 1 ≤ k) (hk5 : k ≤ 5) : n ≤ val5 ((digs0 n).take k) ∧ val5 ((digs0 n).take k) < n + 85 ^ (5 - k) ∧ val5 ((digs0 n).take k) / 85 ^ (5 - k) = n / 85 ^ (5 - k) := by
  have m1 : ∀ x, (UInt8.ofNat (x % 85)).toNat = x % 85 := fun x => u8_small (by omega)
  have h4 : (84 : UInt8).toNat = 84 := rfl
  have hc : k = 1 ∨ k = 2 ∨ k = 3 ∨ k = 4 ∨ k = 5 := by omega
  rcases hc with rfl | rfl | rfl | rfl | rfl
  all_goals
    simp [val5, digs0, List.replicate, m1, h4]
    omega
theorem fiveD_nil (m : Nat) (o ds : List UInt8) : fiveD m o ds [] = (4, []) := by rw [fiveD]
theorem fiveD_white {m : Nat} {o ds : List UInt8} {c : UInt8} (t : List UInt8) (hw : whiteS c = true) : fiveD m o ds (c :: t) = fiveD m o ds t := by
  rw [fiveD, if_pos hw]
theorem fiveD_cut {m : Nat} {o ds : List UInt8} : fiveD m o ds [126] = (4, []) := by rw [fiveD, if_neg (by decide), if_pos rfl]; rfl
theorem fiveD_end {m : Nat} {o ds : List UInt8} (d : UInt8) (t : List UInt8) : fiveD m o ds (126 :: d :: t) = if d = 62 then lastD m o ds else (3, []) := by rw [fiveD, if_neg (by decide), if_pos rfl]; rfl
theorem fiveD_zeros {m : Nat} {o : List UInt8} (t : List UInt8) : fiveD m o [] (122 :: t) = if m < o.length + 4 then (5, []) else fiveD m (o ++ [0, 0, 0, 0]) [] t := by
  rw [fiveD, if_neg (by decide), if_neg (by decide), if_pos ⟨rfl, rfl⟩]
theorem fiveD_digit {m : Nat} {o ds : List UInt8} {c : UInt8} (t : List UInt8) (h1 : 33 ≤ c.toNat) (h2 : c.toNat ≤ 117) : fiveD m o ds (c :: t) =
    if ds.length < 4 then fiveD m o (ds ++ [c - 33]) t
    else if 4294967295 < val5 (ds ++ [c - 33]) then (3, []) else if m < o.length + 4 then (5, []) else fiveD m (o ++ bytes4 (val5 (ds ++ [c - 33]))) [] t := by
  have hw : ¬ whiteS c = true := by
    revert h1 h2
    exact of_decide_eq_true (all_bytes (fun c => decide (33 ≤ c.toNat → c.toNat ≤ 117 → ¬ whiteS c = true)) (by decide +kernel) c)
  have h3 : c ≠ 126 := fun e => by rw [e] at h2; exact absurd h2 (by decide)
  have h4 : c ≠ 122 := fun e => by rw [e] at h2; exact absurd h2 (by decide)
  rw [fiveD, if_neg hw, if_neg h3, if_neg (fun e => h4 e.1), if_pos ⟨h1, h2⟩]
theorem fiveD_bad {m : Nat} {o ds : List UInt8} {c : UInt8} (t : List UInt8) (hw : whiteS c = false) (h3 : c ≠ 126) (h4 : ¬ (c = 122 ∧ ds = [])) (h5 : ¬ (33 ≤ c.toNat ∧ c.toNat ≤ 117)) : fiveD m o ds (c :: t) = (3, []) := by
  rw [fiveD, if_neg (by rw [hw]; decide), if_neg h3, if_neg h4, if_neg h5]
/-- Digits, less than five, are kept. -/
theorem fiveD_keep (m : Nat) (o r : List UInt8) : ∀ (ds es : List UInt8), (∀ d ∈ es, 33 ≤ d.toNat ∧ d.toNat ≤ 117) → ds.length + es.length ≤ 4 → fiveD m o ds (es ++ r) = fiveD m o (ds ++ es.map (· - 33)) r
  | ds, [], _, _ => by simp
  | ds, c :: es, h, hl => by
    obtain ⟨h1, h2⟩ := h c (List.mem_cons_self ..)
    have hc : (c :: es).length = es.length + 1 := rfl
    rw [List.cons_append, fiveD_digit _ h1 h2, if_pos (by omega), fiveD_keep m o r (ds ++ [c - 33]) es (fun d hd => h d (List.mem_cons_of_mem _ hd)) (by rw [List.length_append]; simp; omega), List.append_assoc]
    rfl
theorem digs_range (n : Nat) : ∀ d ∈ digs n, 33 ≤ d.toNat ∧ d.toNat ≤ 117 := by
  have key : ∀ k, k < 85 → 33 ≤ (UInt8.ofNat (33 + k)).toNat ∧ (UInt8.ofNat (33 + k)).toNat ≤ 117 := by decide +kernel
  intro d hd
  unfold digs at hd
  simp only [List.mem_cons, List.not_mem_nil, or_false] at hd
  rcases hd with rfl | rfl | rfl | rfl | rfl <;> exact key _ (Nat.mod_lt _ (by decide))
theorem fiveD_group (m : Nat) (o r : List UInt8) (n : Nat) (h : n ≤ 4294967295) : fiveD m o [] (digs n ++ r) = if m < o.length + 4 then (5, []) else fiveD m (o ++ bytes4 n) [] r := by
  have hr := digs_range n
  have hs := digs_sub n
  obtain ⟨v1, v2, _⟩ := val_digs n 5 h (by decide) (by decide)
  have hv : val5 (digs0 n) = n := by
    have : (digs0 n).take 5 = digs0 n := rfl
    rw [this] at v1 v2
    have e : (85 : Nat) ^ (5 - 5) = 1 := rfl
    omega
  obtain ⟨d0, d1, d2, d3, d4, hd⟩ : ∃ d0 d1 d2 d3 d4, digs n = [d0, d1, d2, d3, d4] := ⟨_, _, _, _, _, rfl⟩
  rw [hd] at hr hs ⊢
  have e4 := fiveD_keep m o (d4 :: r) [] [d0, d1, d2, d3] (fun d hd => hr d (by simp at hd ⊢; rcases hd with h | h | h | h <;> simp [h])) (by simp)
  rw [show [d0, d1, d2, d3, d4] ++ r = [d0, d1, d2, d3] ++ (d4 :: r) from rfl, e4, List.nil_append]
  obtain ⟨h1, h2⟩ := hr d4 (by simp)
  rw [fiveD_digit _ h1 h2, if_neg (by simp)]
  have e : (([d0, d1, d2, d3] : List UInt8).map (· - 33) ++ [d4 - 33]) = digs0 n := by rw [← hs]; rfl
  rw [e, hv, if_neg (by omega)]
theorem u8_back (c : UInt8) : UInt8.ofNat c.toNat = c := by simp
theorem ofNat_same {x : Nat} {c : UInt8} (h : x % 256 = c.toNat) : UInt8.ofNat x = c := by
  apply UInt8.toNat_inj.1
  rw [UInt8.toNat_ofNat', h]
theorem val4_four (a b c d : UInt8) (t : List UInt8) : val4 (a :: b :: c :: d :: t) = ((a.toNat * 256 + b.toNat) * 256 + c.toNat) * 256 + d.toNat := by
  simp [val4]
  omega
theorem bytes_four (a b c d : UInt8) (t : List UInt8) : bytes4 (val4 (a :: b :: c :: d :: t)) = [a, b, c, d] ∧ val4 (a :: b :: c :: d :: t) ≤ 4294967295 := by
  have ha := a.toNat_lt
  have hb := b.toNat_lt
  have hc := c.toNat_lt
  have hd := d.toNat_lt
  rw [val4_four]
  unfold bytes4
  rw [ofNat_same (c := a) (by omega), ofNat_same (c := b) (by omega), ofNat_same (c := c) (by omega), ofNat_same (c := d) (by omega)]
  exact ⟨rfl, by omega⟩
theorem five_full (m : Nat) (o r : List UInt8) (a b c d : UInt8) (t : List UInt8) : fiveD m o [] (five1 (a :: b :: c :: d :: t) ++ r) = if m < o.length + 4 then (5, []) else fiveD m (o ++ [a, b, c, d]) [] r := by
  obtain ⟨h1, h2⟩ := bytes_four a b c d t
  have hl : 4 ≤ (a :: b :: c :: d :: t).length := by simp
  unfold five1
  by_cases hz : val4 (a :: b :: c :: d :: t) = 0
  · rw [if_pos ⟨hl, hz⟩]
    show fiveD m o [] (122 :: r) = _
    rw [fiveD_zeros]
    have e : [a, b, c, d] = [0, 0, 0, 0] := by rw [← h1, hz]; rfl
    rw [e]
  · rw [if_neg (fun h => hz h.2), Nat.min_eq_left hl]
    have e : (digs (val4 (a :: b :: c :: d :: t))).take (4 + 1) = digs (val4 (a :: b :: c :: d :: t)) := rfl
    rw [e, fiveD_group _ _ _ _ h2, h1]
/-- The last bytes, less than four. -/
theorem five_few (l : List UInt8) (h0 : l ≠ []) (h4 : l.length < 4) : five1 l = (digs (val4 l)).take (l.length + 1) ∧ (five1 l).map (· - 33) = (digs0 (val4 l)).take (l.length + 1) ∧ val4 l ≤ 4294967295 ∧
    val5 ((digs0 (val4 l)).take (l.length + 1)) ≤ 4294967295 ∧ (bytes4 (val5 ((digs0 (val4 l)).take (l.length + 1)))).take l.length = l := by
  have e1 : five1 l = (digs (val4 l)).take (l.length + 1) := by
    unfold five1
    rw [if_neg (by omega), Nat.min_eq_right (by omega)]
  refine ⟨e1, by rw [e1, List.map_take, digs_sub], ?_⟩
  match l, h0, h4 with
  | [a], _, _ =>
    have ha := a.toNat_lt
    have hv : val4 [a] = a.toNat * 16777216 := by simp [val4, List.replicate]; omega
    obtain ⟨v1, v2, _⟩ := val_digs (val4 [a]) 2 (by omega) (by decide) (by decide)
    have e : (85 : Nat) ^ (5 - 2) = 614125 := rfl
    show _ ∧ val5 ((digs0 (val4 [a])).take 2) ≤ _ ∧ (bytes4 (val5 ((digs0 (val4 [a])).take 2))).take 1 = _
    refine ⟨by omega, by omega, ?_⟩
    unfold bytes4
    rw [ofNat_same (c := a) (by omega)]
    rfl
  | [a, b], _, _ =>
    have ha := a.toNat_lt
    have hb := b.toNat_lt
    have hv : val4 [a, b] = (a.toNat * 256 + b.toNat) * 65536 := by simp [val4, List.replicate]; omega
    obtain ⟨v1, v2, _⟩ := val_digs (val4 [a, b]) 3 (by omega) (by decide) (by decide)
    have e : (85 : Nat) ^ (5 - 3) = 7225 := rfl
    show _ ∧ val5 ((digs0 (val4 [a, b])).take 3) ≤ _ ∧ (bytes4 (val5 ((digs0 (val4 [a, b])).take 3))).take 2 = _
    refine ⟨by omega, by omega, ?_⟩
    unfold bytes4
    generalize val5 ((digs0 (val4 [a, b])).take 3) = x at *
    have q1 : x / 16777216 = a.toNat := by omega
    have q2 : x / 65536 = a.toNat * 256 + b.toNat := by omega
    rw [q1, q2, ofNat_same (c := a) (by omega), ofNat_same (c := b) (by omega)]
    rfl
  | [a, b, c], _, _ =>
    have ha := a.toNat_lt
    have hb := b.toNat_lt
    have hc := c.toNat_lt
    have hv : val4 [a, b, c] = ((a.toNat * 256 + b.toNat) * 256 + c.toNat) * 256 := by simp [val4, List.replicate]; omega
    obtain ⟨v1, v2, _⟩ := val_digs (val4 [a, b, c]) 4 (by omega) (by decide) (by decide)
    have e : (85 : Nat) ^ (5 - 4) = 85 := rfl
    show _ ∧ val5 ((digs0 (val4 [a, b, c])).take 4) ≤ _ ∧ (bytes4 (val5 ((digs0 (val4 [a, b, c])).take 4))).take 3 = _
    refine ⟨by omega, by omega, ?_⟩
    unfold bytes4
    generalize val5 ((digs0 (val4 [a, b, c])).take 4) = x at *
    have q1 : x / 16777216 = a.toNat := by omega
    have q2 : x / 65536 = a.toNat * 256 + b.toNat := by omega
    have q3 : x / 256 = (a.toNat * 256 + b.toNat) * 256 + c.toNat := by omega
    rw [q1, q2, q3, ofNat_same (c := a) (by omega), ofNat_same (c := b) (by omega), ofNat_same (c := c) (by omega)]
    rfl
theorem fiveE_nil : fiveE [] = [] := by rw [fiveE, if_pos rfl]
theorem fiveE_cons {l : List UInt8} (h : l ≠ []) : fiveE l = five1 l ++ fiveE (l.drop 4) := by rw [fiveE, if_neg h]
theorem five1_range (l : List UInt8) : ∀ d ∈ five1 l, d = 122 ∨ 33 ≤ d.toNat ∧ d.toNat ≤ 117 := by
  intro d hd
  unfold five1 at hd
  split at hd
  · exact .inl (by simpa using hd)
  · exact .inr (digs_range _ d (List.mem_of_mem_take hd))
theorem few_keep (m : Nat) (o r l : List UInt8) (h0 : l ≠ []) (h4 : l.length < 4) : fiveD m o [] (five1 l ++ r) = fiveD m o ((digs0 (val4 l)).take (l.length + 1)) r := by
  obtain ⟨e1, e2, _⟩ := five_few l h0 h4
  rw [fiveD_keep m o r [] (five1 l) (fun d hd => by rw [e1] at hd; exact digs_range _ d (List.mem_of_mem_take hd)) (by rw [e1, List.length_take]; simp; omega), List.nil_append, e2]
theorem take_len (n k : Nat) (hk : k ≤ 5) : ((digs0 n).take k).length = k := by rw [List.length_take]; show min k 5 = k; omega
theorem five_last (m : Nat) (o l r : List UInt8) (h0 : l ≠ []) (h4 : l.length < 4) : fiveD m o [] (five1 l ++ 126 :: 62 :: r) = if m < o.length + l.length then (5, []) else (0, o ++ l) := by
  obtain ⟨e1, e2, e3, e4, e5⟩ := five_few l h0 h4
  have hp : 0 < l.length := List.length_pos_iff.2 h0
  have hl := take_len (val4 l) (l.length + 1) (by omega)
  rw [few_keep m o _ l h0 h4, fiveD_end, if_pos rfl]
  unfold lastD
  rw [if_neg (by intro h; rw [h] at hl; simp at hl), if_neg (by rw [hl]; omega), hl, Nat.add_sub_cancel, e5]
theorem cons_four (l : List UInt8) (h : 4 ≤ l.length) : ∃ a b c d t, l = a :: b :: c :: d :: t := by
  match l, h with
  | a :: b :: c :: d :: t, _ => exact ⟨a, b, c, d, t, rfl⟩
theorem fiveE_back (m : Nat) (r : List UInt8) : ∀ (n : Nat) (l o : List UInt8), l.length ≤ n → o.length ≤ m → fiveD m o [] (fiveE l ++ 126 :: 62 :: r) = if m < o.length + l.length then (5, []) else (0, o ++ l) := by
  intro n
  induction n with
  | zero =>
    intro l o h ho
    obtain rfl : l = [] := List.eq_nil_of_length_eq_zero (by omega)
    rw [fiveE_nil, List.nil_append, fiveD_end, if_pos rfl, if_neg (by simp; omega)]
    unfold lastD
    rw [if_pos rfl, List.append_nil]
  | succ n ih =>
    intro l o h ho
    by_cases h0 : l = []
    · subst h0
      rw [fiveE_nil, List.nil_append, fiveD_end, if_pos rfl, if_neg (by simp; omega)]
      unfold lastD
      rw [if_pos rfl, List.append_nil]
    · rw [fiveE_cons h0, List.append_assoc]
      by_cases h4 : l.length < 4
      · have hd : l.drop 4 = [] := List.drop_eq_nil_of_le (by omega)
        rw [hd, fiveE_nil, List.nil_append, five_last m o l r h0 h4]
      · obtain ⟨a, b, c, d, t, rfl⟩ := cons_four l (by omega)
        have hl : (a :: b :: c :: d :: t).length = t.length + 4 := rfl
        rw [five_full]
        show (if m < o.length + 4 then _ else fiveD m (o ++ [a, b, c, d]) [] (fiveE t ++ _)) = _
        have ho4 : (o ++ [a, b, c, d]).length = o.length + 4 := by simp
        by_cases hm : m < o.length + 4
        · rw [if_pos hm, if_pos (by omega)]
        · rw [if_neg hm, ih t (o ++ [a, b, c, d]) (by omega) (by omega), ho4, hl, List.append_assoc]
          by_cases h2 : m < o.length + (t.length + 4)
          · rw [if_pos (by omega), if_pos h2]
          · rw [if_neg (by omega), if_neg h2]; rfl
theorem fiveE_cut (m : Nat) (r : List UInt8) (hr : r = [] ∨ r = [126]) : ∀ (n : Nat) (l o : List UInt8), l.length ≤ n → o.length + l.length ≤ m → fiveD m o [] (fiveE l ++ r) = (4, []) := by
  have hrd : ∀ o ds, fiveD m o ds r = (4, []) := by
    rcases hr with rfl | rfl
    · exact fun o ds => fiveD_nil m o ds
    · exact fun o ds => fiveD_cut
  intro n
  induction n with
  | zero =>
    intro l o h ho
    obtain rfl : l = [] := List.eq_nil_of_length_eq_zero (by omega)
    rw [fiveE_nil, List.nil_append, hrd]
  | succ n ih =>
    intro l o h ho
    by_cases h0 : l = []
    · subst h0
      rw [fiveE_nil, List.nil_append, hrd]
    · rw [fiveE_cons h0, List.append_assoc]
      by_cases h4 : l.length < 4
      · have hd : l.drop 4 = [] := List.drop_eq_nil_of_le (by omega)
        rw [hd, fiveE_nil, List.nil_append, few_keep m o r l h0 h4, hrd]
      · obtain ⟨a, b, c, d, t, rfl⟩ := cons_four l (by omega)
        have hl : (a :: b :: c :: d :: t).length = t.length + 4 := rfl
        rw [five_full, if_neg (by omega)]
        exact ih t (o ++ [a, b, c, d]) (by omega) (by simp; omega)
theorem fiveE_no (l : List UInt8) : (126 : UInt8) ∉ fiveE l := by
  have key : ∀ (n : Nat) (l : List UInt8), l.length ≤ n → (126 : UInt8) ∉ fiveE l := by
    intro n
    induction n with
    | zero =>
      intro l h
      obtain rfl : l = [] := List.eq_nil_of_length_eq_zero (by omega)
      rw [fiveE_nil]
      exact fun h => by cases h
    | succ n ih =>
      intro l h
      by_cases h0 : l = []
      · subst h0; rw [fiveE_nil]; exact fun h => by cases h
      · rw [fiveE_cons h0, List.mem_append]
        have hp : 0 < l.length := List.length_pos_iff.2 h0
        rintro (h1 | h1)
        · rcases five1_range l _ h1 with h2 | ⟨_, h2⟩
          · exact absurd h2 (by decide)
          · exact absurd h2 (by decide)
        · exact ih (l.drop 4) (by rw [List.length_drop]; omega) h1
  exact key l.length l (Nat.le_refl _)
theorem fiveD_blank (m : Nat) {w : UInt8} (hw : whiteS w = true) (b : List UInt8) : ∀ (a o ds : List UInt8), (126 : UInt8) ∉ a → fiveD m o ds (a ++ w :: b) = fiveD m o ds (a ++ b)
  | [], o, ds, _ => by rw [List.nil_append, List.nil_append, fiveD_white _ hw]
  | c :: t, o, ds, h => by
    have hc : c ≠ 126 := fun e => h (by rw [e]; exact List.mem_cons_self ..)
    have ht : (126 : UInt8) ∉ t := fun e => h (List.mem_cons_of_mem _ e)
    have ih := fun o ds => fiveD_blank m hw b t o ds ht
    rw [List.cons_append, List.cons_append]
    by_cases h1 : whiteS c = true
    · rw [fiveD_white _ h1, fiveD_white _ h1, ih]
    · have h1 : whiteS c = false := by simpa using h1
      by_cases h2 : c = 122 ∧ ds = []
      · obtain ⟨rfl, rfl⟩ := h2
        rw [fiveD_zeros, fiveD_zeros, ih]
      · by_cases h3 : 33 ≤ c.toNat ∧ c.toNat ≤ 117
        · rw [fiveD_digit _ h3.1 h3.2, fiveD_digit _ h3.1 h3.2, ih, ih]
        · rw [fiveD_bad _ h1 hc h2 h3, fiveD_bad _ h1 hc h2 h3]
theorem fiveE_len (l : List UInt8) : (fiveE l).length ≤ 5 * ((l.length + 3) / 4) := by
  have key : ∀ (n : Nat) (l : List UInt8), l.length ≤ n → (fiveE l).length ≤ 5 * ((l.length + 3) / 4) := by
    intro n
    induction n with
    | zero =>
      intro l h
      obtain rfl : l = [] := List.eq_nil_of_length_eq_zero (by omega)
      rw [fiveE_nil]
      exact Nat.zero_le _
    | succ n ih =>
      intro l h
      by_cases h0 : l = []
      · subst h0; rw [fiveE_nil]; exact Nat.zero_le _
      · have hp : 0 < l.length := List.length_pos_iff.2 h0
        rw [fiveE_cons h0, List.length_append]
        have h5 : (five1 l).length ≤ 5 := by
          unfold five1
          split
          · decide
          · rw [List.length_take]; show min _ 5 ≤ 5; omega
        have := ih (l.drop 4) (by rw [List.length_drop]; omega)
        rw [List.length_drop] at this
        omega
  exact key l.length l (Nat.le_refl _)

/-! ### Runs are taken back. -/
theorem runD_nil (m : Nat) (o : List UInt8) : runD m o [] = (4, []) := by rw [runD]
theorem runD_end (m : Nat) (o t : List UInt8) : runD m o (128 :: t) = (0, o) := by rw [runD, if_pos rfl]
theorem runD_lit (m : Nat) (o : List UInt8) {c : UInt8} (t : List UInt8) (h : c.toNat < 128) : runD m o (c :: t) = if t.length < c.toNat + 1 then (4, []) else if m < o.length + (c.toNat + 1) then (5, []) else runD m (o ++ t.take (c.toNat + 1)) (t.drop (c.toNat + 1)) := by
  rw [runD, if_neg (fun e => by rw [e] at h; exact absurd h (by decide)), if_pos h]
theorem runD_cut (m : Nat) (o : List UInt8) {c : UInt8} (h : 128 < c.toNat) : runD m o [c] = (4, []) := by
  rw [runD, if_neg (fun e => by rw [e] at h; exact absurd h (by decide)), if_neg (by omega), if_pos rfl]
theorem runD_run (m : Nat) (o : List UInt8) {c : UInt8} (x : UInt8) (u : List UInt8) (h : 128 < c.toNat) : runD m o (c :: x :: u) = if m < o.length + (257 - c.toNat) then (5, []) else runD m (o ++ List.replicate (257 - c.toNat) x) u := by
  rw [runD, if_neg (fun e => by rw [e] at h; exact absurd h (by decide)), if_neg (by omega), if_neg (by simp)]; rfl
theorem piece_lit (m : Nat) (o x r : List UInt8) (h1 : 1 ≤ x.length) (h2 : x.length ≤ 128) : runD m o (UInt8.ofNat (x.length - 1) :: (x ++ r)) = if m < o.length + x.length then (5, []) else runD m (o ++ x) r := by
  have e : (UInt8.ofNat (x.length - 1)).toNat = x.length - 1 := u8_small (by omega)
  rw [runD_lit _ _ _ (by omega), e, Nat.sub_add_cancel h1, if_neg (by rw [List.length_append]; omega), List.take_left, List.drop_left]
theorem piece_run (m : Nat) (o r : List UInt8) (c : UInt8) (n : Nat) (h1 : 2 ≤ n) (h2 : n ≤ 128) : runD m o (UInt8.ofNat (257 - n) :: c :: r) = if m < o.length + n then (5, []) else runD m (o ++ List.replicate n c) r := by
  have e : (UInt8.ofNat (257 - n)).toNat = 257 - n := u8_small (by omega)
  rw [runD_run _ _ _ _ (by omega), e, show 257 - (257 - n) = n by omega]
theorem take_while_eq (c : UInt8) : ∀ t : List UInt8, t.take (t.takeWhile (· == c)).length = List.replicate (t.takeWhile (· == c)).length c
  | [] => rfl
  | d :: t => by
    rw [List.takeWhile_cons]
    by_cases h : (d == c) = true
    · rw [if_pos h]
      have e : d = c := by simpa using h
      rw [e, List.length_cons, List.take_succ_cons, take_while_eq c t, List.replicate_succ]
    · rw [if_neg h]; rfl
theorem eqN_take (c : UInt8) (t : List UInt8) : (c :: t).take (eqN (c :: t)) = List.replicate (eqN (c :: t)) c := by
  have h : ∀ k, k ≤ (t.takeWhile (· == c)).length → t.take k = List.replicate k c := by
    intro k hk
    have e := take_while_eq c t
    have e2 := congrArg (List.take k) e
    rw [List.take_take, Nat.min_eq_left hk, List.take_replicate, Nat.min_eq_left hk] at e2
    exact e2
  obtain ⟨k, hk⟩ : ∃ k, eqN (c :: t) = k + 1 := ⟨eqN (c :: t) - 1, by have := eqN_pos (l := c :: t) (by simp); omega⟩
  rw [hk, List.take_succ_cons, List.replicate_succ, h k]
  have : eqN (c :: t) = min 128 (1 + (t.takeWhile (· == c)).length) := rfl
  omega
theorem runE_nil : runE [] = [] := by rw [runE, if_pos rfl]
theorem runE_run {c : UInt8} {t : List UInt8} (h : 3 ≤ eqN (c :: t)) : runE (c :: t) = UInt8.ofNat (257 - eqN (c :: t)) :: c :: runE ((c :: t).drop (eqN (c :: t))) := by
  rw [runE, if_neg (by simp), if_pos h]; rfl
theorem runE_lit {l : List UInt8} (h0 : l ≠ []) (h : eqN l < 3) : runE l = UInt8.ofNat (litT 128 l - 1) :: (l.take (litT 128 l) ++ runE (l.drop (litT 128 l))) := by
  rw [runE, if_neg h0, if_neg (by omega)]; rfl
theorem runE_step (l : List UInt8) (h0 : l ≠ []) : ∃ n, 1 ≤ n ∧ n ≤ l.length ∧ n ≤ 128 ∧ ∃ p, runE l = p ++ runE (l.drop n) ∧ ∀ (m : Nat) (o r : List UInt8), runD m o (p ++ r) = if m < o.length + n then (5, []) else runD m (o ++ l.take n) r := by
  obtain ⟨c, t, rfl⟩ := List.exists_cons_of_ne_nil h0
  by_cases h : 3 ≤ eqN (c :: t)
  · obtain ⟨e1, e2⟩ := eqN_le (c :: t)
    refine ⟨eqN (c :: t), by omega, e1, e2, [UInt8.ofNat (257 - eqN (c :: t)), c], runE_run h, fun m o r => ?_⟩
    rw [eqN_take]
    exact piece_run m o r c _ (by omega) e2
  · obtain ⟨e1, e2⟩ := litT_le 128 (c :: t)
    have e3 := litT_pos (k := 128) (by decide) h0 (by omega)
    have e4 : ((c :: t).take (litT 128 (c :: t))).length = litT 128 (c :: t) := by rw [List.length_take]; omega
    refine ⟨litT 128 (c :: t), e3, e1, e2, UInt8.ofNat (litT 128 (c :: t) - 1) :: (c :: t).take (litT 128 (c :: t)), runE_lit h0 (by omega), fun m o r => ?_⟩
    have e5 := piece_lit m o ((c :: t).take (litT 128 (c :: t))) r (by omega) (by omega)
    rw [e4] at e5
    exact e5
theorem runE_back (m : Nat) (r : List UInt8) : ∀ (n : Nat) (l o : List UInt8), l.length ≤ n → o.length ≤ m → runD m o (runE l ++ 128 :: r) = if m < o.length + l.length then (5, []) else (0, o ++ l) := by
  intro n
  induction n with
  | zero =>
    intro l o h ho
    obtain rfl : l = [] := List.eq_nil_of_length_eq_zero (by omega)
    rw [runE_nil, List.nil_append, runD_end, if_neg (by simp; omega), List.append_nil]
  | succ n ih =>
    intro l o h ho
    by_cases h0 : l = []
    · subst h0
      rw [runE_nil, List.nil_append, runD_end, if_neg (by simp; omega), List.append_nil]
    · obtain ⟨k, k1, k2, _, p, e1, e2⟩ := runE_step l h0
      have ht : (l.take k).length = k := by rw [List.length_take]; omega
      rw [e1, List.append_assoc, e2]
      by_cases hm : m < o.length + k
      · rw [if_pos hm, if_pos (by omega)]
      · rw [if_neg hm, ih (l.drop k) (o ++ l.take k) (by rw [List.length_drop]; omega) (by rw [List.length_append]; omega), List.length_append, ht, List.length_drop, List.append_assoc, List.take_append_drop]
        by_cases h2 : m < o.length + l.length
        · rw [if_pos (by omega), if_pos h2]
        · rw [if_neg (by omega), if_neg h2]
theorem runE_cut (m : Nat) : ∀ (n : Nat) (l o : List UInt8), l.length ≤ n → o.length + l.length ≤ m → runD m o (runE l) = (4, []) := by
  intro n
  induction n with
  | zero =>
    intro l o h ho
    obtain rfl : l = [] := List.eq_nil_of_length_eq_zero (by omega)
    rw [runE_nil, runD_nil]
  | succ n ih =>
    intro l o h ho
    by_cases h0 : l = []
    · subst h0
      rw [runE_nil, runD_nil]
    · obtain ⟨k, k1, k2, _, p, e1, e2⟩ := runE_step l h0
      have ht : (l.take k).length = k := by rw [List.length_take]; omega
      rw [e1, e2, if_neg (by omega), ih (l.drop k) (o ++ l.take k) (by rw [List.length_drop]; omega) (by rw [List.length_append, List.length_drop]; omega)]
/-! ### How long runs are. -/
theorem litT_stop : ∀ (k : Nat) (l : List UInt8), litT k l = k ∨ l.drop (litT k l) = [] ∨ 3 ≤ eqN (l.drop (litT k l))
  | 0, _ => .inl rfl
  | k + 1, [] => .inr (.inl rfl)
  | k + 1, c :: t => by
    unfold litT
    by_cases h : 3 ≤ eqN (c :: t)
    · rw [if_pos h]; exact .inr (.inr h)
    · rw [if_neg h]
      rcases litT_stop k t with h1 | h1 | h1
      · exact .inl (by omega)
      · refine .inr (.inl ?_)
        rw [Nat.add_comm, List.drop_succ_cons]; exact h1
      · refine .inr (.inr ?_)
        rw [Nat.add_comm, List.drop_succ_cons]; exact h1
theorem runE_len : ∀ (n : Nat) (l : List UInt8), l.length ≤ n → (runE l).length ≤ l.length + (l.length + 127) / 128 ∧ (3 ≤ eqN l → (runE l).length + 1 ≤ l.length + (l.length + 127) / 128) := by
  intro n
  induction n with
  | zero =>
    intro l h
    obtain rfl : l = [] := List.eq_nil_of_length_eq_zero (by omega)
    rw [runE_nil]
    exact ⟨Nat.zero_le _, fun h => absurd h (by decide)⟩
  | succ n ih =>
    intro l h
    by_cases h0 : l = []
    · subst h0
      rw [runE_nil]
      exact ⟨Nat.zero_le _, fun h => absurd h (by decide)⟩
    · obtain ⟨c, t, rfl⟩ := List.exists_cons_of_ne_nil h0
      have hp : (c :: t).length = t.length + 1 := rfl
      by_cases h3 : 3 ≤ eqN (c :: t)
      · obtain ⟨e1, e2⟩ := eqN_le (c :: t)
        obtain ⟨i1, _⟩ := ih ((c :: t).drop (eqN (c :: t))) (by rw [List.length_drop]; omega)
        rw [List.length_drop] at i1
        rw [runE_run h3, List.length_cons, List.length_cons]
        refine ⟨by omega, fun _ => by omega⟩
      · obtain ⟨e1, e2⟩ := litT_le 128 (c :: t)
        have e3 := litT_pos (k := 128) (by decide) h0 (by omega)
        obtain ⟨i1, i2⟩ := ih ((c :: t).drop (litT 128 (c :: t))) (by rw [List.length_drop]; omega)
        refine ⟨?_, fun h => absurd h h3⟩
        rw [runE_lit h0 (by omega), List.length_cons, List.length_append, List.length_take]
        rcases litT_stop 128 (c :: t) with h1 | h1 | h1
        · rw [h1] at i1 e1 ⊢
          rw [List.length_drop] at i1
          omega
        · have e5 := congrArg List.length h1
          rw [List.length_drop] at e5
          rw [h1, runE_nil]
          simp only [List.length_nil] at e5 ⊢
          omega
        · have i3 := i2 h1
          rw [List.length_drop] at i3
          omega
theorem eqN_same (c : UInt8) (n : Nat) : eqN (List.replicate n c) = min 128 n := by
  cases n with
  | zero => rfl
  | succ n =>
    rw [List.replicate_succ]
    show min 128 (1 + ((List.replicate n c).takeWhile (· == c)).length) = _
    rw [List.takeWhile_replicate, if_pos (by simp), List.length_replicate, Nat.add_comm]
theorem runE_same (c : UInt8) : ∀ (k n : Nat), n ≤ k → (runE (List.replicate n c)).length ≤ 2 * ((n + 127) / 128) + 1 := by
  intro k
  induction k with
  | zero =>
    intro n h
    obtain rfl : n = 0 := by omega
    rw [List.replicate_zero, runE_nil]
    exact Nat.zero_le _
  | succ k ih =>
    intro n h
    cases n with
    | zero => rw [List.replicate_zero, runE_nil]; exact Nat.zero_le _
    | succ n =>
      have he := eqN_same c (n + 1)
      have hne : List.replicate (n + 1) c ≠ [] := by simp
      by_cases h3 : 3 ≤ n + 1
      · rw [List.replicate_succ] at he ⊢
        rw [runE_run (by omega), he, List.length_cons, List.length_cons, ← List.replicate_succ, List.drop_replicate]
        have := ih (n + 1 - min 128 (n + 1)) (by omega)
        omega
      · have hl : (runE (List.replicate (n + 1) c)).length ≤ (n + 1) + ((n + 1) + 127) / 128 := by
          have := (runE_len (n + 1) (List.replicate (n + 1) c) (by simp)).1
          rw [List.length_replicate] at this
          exact this
        omega
end Go.Proofs.Ythioafndepkhoaa.Asc
