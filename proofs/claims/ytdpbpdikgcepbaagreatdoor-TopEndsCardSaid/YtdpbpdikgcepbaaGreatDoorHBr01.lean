/-
  Lemmas and walks, joined: HdMath, HdBk.
-/
import Derived.Test.YtdpbpdikgcepbaaGreatDoorHz23
import Derived.Test.YtdpbpdikgcepbaaGreatDoorHz17
import Derived.Test.YtdpbpdikgcepbaaGreatDoorHz21
import Derived.Test.YtdpbpdikgcepbaaGreatDoorHz13
namespace Go.Proofs.YtdpbpdikgcepbaaGreatDoor
open Go.RowKit Go.Shelf Oct Fix Lex

theorem occ_iff (s sub : List UInt8) (i : Nat) : Lib.occAt s sub i = true ↔ ∀ k (h : k < sub.length), s[i + k]? = some sub[k] := by
  unfold Lib.occAt
  rw [List.isPrefixOf_iff_prefix, List.prefix_iff_getElem?]
  simp only [List.getElem?_drop]
theorem eof_iff (s : List UInt8) (i : Nat) : Lib.occAt s eof i = true ↔ s[i]? = some 37 ∧ s[i + 1]? = some 37 ∧ s[i + 2]? = some 69 ∧ s[i + 3]? = some 79 ∧ s[i + 4]? = some 70 := by
  rw [occ_iff]
  constructor
  · intro h
    exact ⟨h 0 (by decide), h 1 (by decide), h 2 (by decide), h 3 (by decide), h 4 (by decide)⟩
  · rintro ⟨h0, h1, h2, h3, h4⟩ k hk
    have hk : k < 5 := hk
    match k, hk with
    | 0, _ => exact h0
    | 1, _ => exact h1
    | 2, _ => exact h2
    | 3, _ => exact h3
    | 4, _ => exact h4
theorem last_at {u : List UInt8} (hu : u.getLast? = some 10) : u ≠ [] ∧ u[u.length - 1]? = some 10 := by
  refine ⟨fun h => (by rw [h] at hu; cases hu), ?_⟩
  rw [List.getLast?_eq_getElem?] at hu
  exact hu
theorem eof_left {u v : List UInt8} {i : Nat} (hu : u.getLast? = some 10) (hi : i < u.length) : Lib.occAt (u ++ v) eof i = Lib.occAt u eof i := by
  obtain ⟨_, h10⟩ := last_at hu
  rw [Bool.eq_iff_iff, eof_iff, eof_iff]
  by_cases h4 : i + 4 < u.length
  · rw [List.getElem?_append_left hi, List.getElem?_append_left (by omega : i + 1 < u.length), List.getElem?_append_left (by omega : i + 2 < u.length), List.getElem?_append_left (by omega : i + 3 < u.length), List.getElem?_append_left h4]
  · have h5 : (u ++ v)[u.length - 1]? = some 10 := by rw [List.getElem?_append_left (by omega)]; exact h10
    have hc : u.length - 1 = i ∨ u.length - 1 = i + 1 ∨ u.length - 1 = i + 2 ∨ u.length - 1 = i + 3 := by omega
    rcases hc with e | e | e | e <;> rw [e] at h10 h5 <;> simp [h10, h5]
theorem endOk_left {u v : List UInt8} {i : Nat} (hi : i < u.length) : endOk (u ++ v) i = endOk u i := by
  unfold endOk
  rw [List.getElem?_append_left (by omega : i - 1 < u.length)]
theorem endOk_right {u v : List UInt8} (j : Nat) (hu : u.getLast? = some 10) : endOk (u ++ v) (u.length + j) = endOk v j := by
  obtain ⟨hn, h10⟩ := last_at hu
  have hl : 0 < u.length := List.length_pos_iff.2 hn
  unfold endOk
  cases j with
  | zero =>
    rw [Nat.add_zero, List.getElem?_append_left (by omega : u.length - 1 < u.length), h10]
    simp
  | succ j =>
    have e1 : (u.length + (j + 1) == 0) = false := by simp
    have e2 : (j + 1 == 0) = false := by simp
    rw [show u.length + (j + 1) - 1 = u.length + j by omega, List.getElem?_append_right (by omega), show u.length + j - u.length = j by omega, Nat.add_sub_cancel, e1, e2]
theorem line_app : ∀ (x v : List UInt8), x.getLast? = some 10 → lineN (x ++ v) = lineN x
  | [], _, h => by cases h
  | [a], v, h => by
    obtain rfl : a = 10 := by simpa using h
    cases v with
    | nil => rfl
    | cons b t => show lineN (10 :: b :: t) = 1; unfold lineN; simp
  | a :: b :: t, v, h => by
    have ih := line_app (b :: t) v (by rw [List.getLast?_cons_cons] at h; exact h)
    rw [List.cons_append, List.cons_append] at *
    rw [lineN, lineN, ih]
theorem lineS_left {u v : List UInt8} {i : Nat} (hu : u.getLast? = some 10) (hi : i < u.length) : lineS (u ++ v) (i : Int) = lineS u (i : Int) := by
  unfold lineS
  rw [if_neg (by rw [List.length_append]; omega), if_neg (by omega), Int.toNat_natCast, List.drop_append_of_le_length (by omega), line_app]
  rw [List.getLast?_drop, if_neg (by omega), hu]
theorem lineS_right {u v : List UInt8} {j : Nat} (hj : j ≤ v.length) : lineS (u ++ v) ((u.length + j : Nat) : Int) = (u.length : Int) + lineS v (j : Int) := by
  unfold lineS
  rw [if_neg (by rw [List.length_append]; omega), if_neg (by omega), Int.toNat_natCast, Int.toNat_natCast, List.drop_append, List.drop_eq_nil_of_le (by omega : u.length ≤ u.length + j), show u.length + j - u.length = j by omega, List.nil_append]
  omega
def endP (l : List UInt8) (i : Nat) : Bool := endOk l i && Lib.occAt l eof i
theorem endsS_eq (l : List UInt8) : endsS l = ((List.range l.length).filter (endP l)).map fun i : Nat => lineS l ((i + 5 : Nat) : Int) := by
  unfold endsS endsOf occTo
  rw [List.filter_filter]
  rfl
theorem endP_room {l : List UInt8} {i : Nat} (h : endP l i = true) : i + 5 ≤ l.length := by
  unfold endP at h
  rw [Bool.and_eq_true] at h
  rcases Lib.occAt_room h.2 with h | h
  · exact h
  · cases h
theorem ends_append {u : List UInt8} (v : List UInt8) (hu : u.getLast? = some 10) : endsS (u ++ v) = endsS u ++ (endsS v).map fun n => (u.length : Int) + n := by
  obtain ⟨_, h10⟩ := last_at hu
  rw [endsS_eq, endsS_eq u, endsS_eq v, List.length_append, List.range_add, List.filter_append, List.map_append, List.filter_map, List.map_map, List.map_map]
  have h1 : (List.range u.length).filter (endP (u ++ v)) = (List.range u.length).filter (endP u) := by
    refine List.filter_congr fun i hi => ?_
    have hi := List.mem_range.1 hi
    unfold endP
    rw [eof_left hu hi, endOk_left hi]
  have h2 : (List.range v.length).filter (endP (u ++ v) ∘ fun x => u.length + x) = (List.range v.length).filter (endP v) := by
    refine List.filter_congr fun i _ => ?_
    show endP (u ++ v) (u.length + i) = endP v i
    unfold endP
    rw [endOk_right i hu]
    congr 1
    rw [← occAt_drop, List.drop_left]
  rw [h1, h2]
  congr 1
  · refine List.map_congr_left fun i hi => ?_
    obtain ⟨_, hp⟩ := List.mem_filter.1 hi
    have hr := endP_room hp
    have h70 : u[i + 4]? = some 70 := by
      unfold endP at hp
      rw [Bool.and_eq_true] at hp
      exact ((eof_iff u i).1 hp.2).2.2.2.2
    refine lineS_left hu ?_
    by_cases h : i + 5 = u.length
    · rw [show u.length - 1 = i + 4 by omega, h70] at h10
      exact absurd h10 (by decide)
    · omega
  · refine List.map_congr_left fun i hi => ?_
    obtain ⟨_, hp⟩ := List.mem_filter.1 hi
    have hr := endP_room hp
    show lineS (u ++ v) ((u.length + i + 5 : Nat) : Int) = (u.length : Int) + lineS v ((i + 5 : Nat) : Int)
    rw [Nat.add_assoc]
    exact lineS_right hr
/-! ### They increase. -/
theorem line_by : ∀ (x : List UInt8) (k : Nat), (x[k]? = some 10 ∨ x[k]? = some 13 ∧ x[k + 1]? ≠ some 10) → lineN x ≤ k + 1
  | [], k, _ => by unfold lineN; omega
  | [a], k, _ => by unfold lineN; omega
  | a :: b :: t, k, h => by
    unfold lineN
    split
    · next hc =>
      cases k with
      | zero =>
        obtain ⟨rfl, rfl⟩ := hc
        simp at h
      | succ k => omega
    · split
      · omega
      · next hc =>
        cases k with
        | zero =>
          exfalso
          apply hc
          rcases h with h | ⟨h, _⟩
          · left; simpa using h
          · right; simpa using h
        | succ k =>
          have := line_by (b :: t) k (by simpa using h)
          omega
theorem lineS_ge (l : List UInt8) (i : Nat) : (i : Int) ≤ lineS l (i : Int) := by
  unfold lineS
  split <;> omega
theorem ends_lt {l : List UInt8} {i j : Nat} (hi : endP l i = true) (hj : endP l j = true) (h : i < j) : lineS l ((i + 5 : Nat) : Int) < lineS l ((j + 5 : Nat) : Int) := by
  have hri := endP_room hi
  have hrj := endP_room hj
  unfold endP at hi hj
  rw [Bool.and_eq_true] at hi hj
  obtain ⟨_, hi⟩ := hi
  obtain ⟨hok, hj⟩ := hj
  obtain ⟨i0, i1, i2, i3, i4⟩ := (eof_iff l i).1 hi
  obtain ⟨j0, j1, j2, j3, j4⟩ := (eof_iff l j).1 hj
  have hprev : l[j - 1]? = some 10 ∨ l[j - 1]? = some 13 := by
    unfold endOk at hok
    rw [Bool.or_eq_true, Bool.or_eq_true] at hok
    rcases hok with (h | h) | h
    · have : j = 0 := by simpa using h
      omega
    · left; simpa using h
    · right; simpa using h
  have hgt : i + 5 < j := by
    have hc : j = i + 1 ∨ j = i + 2 ∨ j = i + 3 ∨ j = i + 4 ∨ j = i + 5 ∨ i + 5 < j := by omega
    rcases hc with rfl | rfl | rfl | rfl | rfl | h
    · rw [show i + 1 - 1 = i by omega, i0] at hprev; rcases hprev with h | h <;> cases h
    · rw [show i + 2 - 1 = i + 1 by omega, i1] at hprev; rcases hprev with h | h <;> cases h
    · rw [show i + 3 - 1 = i + 2 by omega, i2] at hprev; rcases hprev with h | h <;> cases h
    · rw [show i + 4 - 1 = i + 3 by omega, i3] at hprev; rcases hprev with h | h <;> cases h
    · rw [show i + 5 - 1 = i + 4 by omega, i4] at hprev; rcases hprev with h | h <;> cases h
    · exact h
  have hb : lineN (l.drop (i + 5)) ≤ (j - 1 - (i + 5)) + 1 := by
    refine line_by _ _ ?_
    rw [List.getElem?_drop, List.getElem?_drop, show i + 5 + (j - 1 - (i + 5)) = j - 1 by omega, show i + 5 + (j - 1 - (i + 5) + 1) = j by omega, j0]
    rcases hprev with h | h
    · exact .inl h
    · exact .inr ⟨h, by decide⟩
  have h1 := lineS_ge l (j + 5)
  have h2 : lineS l ((i + 5 : Nat) : Int) = ((i + 5 : Nat) : Int) + lineN (l.drop (i + 5)) := by
    unfold lineS
    rw [if_neg (by omega), Int.toNat_natCast]
  omega
theorem ends_up (l : List UInt8) : (endsS l).Pairwise (· < ·) := by
  rw [endsS_eq, List.pairwise_map]
  refine (List.Pairwise.filter _ List.pairwise_lt_range).imp_of_mem ?_
  intro a b ha hb hab
  exact ends_lt (List.mem_filter.1 ha).2 (List.mem_filter.1 hb).2 hab
theorem ends_le (l : List UInt8) : ∀ n ∈ endsS l, 0 ≤ n ∧ n ≤ l.length := by
  rw [endsS_eq]
  intro n hn
  obtain ⟨i, hi, rfl⟩ := List.mem_map.1 hn
  have hr := endP_room (List.mem_filter.1 hi).2
  have h := lineN_le (l.drop (i + 5))
  rw [List.length_drop] at h
  unfold lineS
  rw [if_neg (by omega), Int.toNat_natCast]
  omega
theorem ends_len (l : List UInt8) : (endsS l).length ≤ l.length := by
  rw [endsS_eq, List.length_map]
  exact Nat.le_trans (List.length_filter_le _ _) (by rw [List.length_range]; exact Nat.le_refl _)
theorem ends_no {l : List UInt8} (h : (37 : UInt8) ∉ l) : endsS l = [] := by
  rw [endsS_eq, List.map_eq_nil_iff, List.filter_eq_nil_iff]
  intro i _ hp
  unfold endP at hp
  rw [Bool.and_eq_true] at hp
  exact h (List.mem_of_getElem? ((eof_iff l i).1 hp.2).1)

/-! ### Texts with a tail, and with a header. -/
theorem itoa_pos {n : Int} (h : 0 ≤ n) : Lib.itoa n = Lib.decDigits n.toNat := by
  rw [itoa_sign, decide_eq_false (by omega)]
  show [] ++ _ = _
  rw [List.nil_append]
  congr 1
  omega
theorem itoa_dig {n : Int} (h : 0 ≤ n) : ∀ c ∈ Lib.itoa n, isDig c = true := by
  rw [itoa_pos h]
  exact fun c hc => List.all_eq_true.1 (dec_dig n.toNat) c hc
theorem dig_not {c : UInt8} (h : isDig c = true) : c ≠ 37 ∧ c ≠ 115 ∧ whiteS c = false := by
  revert h
  exact of_decide_eq_true (all_bytes (fun c => decide (isDig c = true → c ≠ 37 ∧ c ≠ 115 ∧ whiteS c = false)) (by decide +kernel) c)
def mk5 : List UInt8 := [37, 37, 69, 79, 70, 10]
theorem tail_cut {n : Int} (h0 : 0 ≤ n) (h1 : n ≤ 2147483647) : tailX n = (sxr ++ Lib.itoa n ++ [10]) ++ mk5 := by
  rw [tail_in (by omega)]
  unfold mk5
  simp
theorem tail_first {n : Int} (h : 0 ≤ n) : endsS (sxr ++ Lib.itoa n ++ [10]) = [] := by
  refine ends_no ?_
  rw [List.mem_append, List.mem_append]
  rintro ((h1 | h1) | h1)
  · revert h1; decide
  · exact (dig_not (itoa_dig h _ h1)).1 rfl
  · revert h1; decide
theorem ends_mk : endsS mk5 = [6] := by decide +kernel
theorem ends_tail {n : Int} (h0 : 0 ≤ n) (h1 : n ≤ 2147483647) : endsS (tailX n) = [((tailX n).length : Int)] := by
  rw [tail_cut h0 h1, ends_append mk5 (by rw [List.getLast?_append]; rfl), tail_first h0, ends_mk, List.nil_append, List.map_cons, List.map_nil]
  simp [mk5]
  omega
theorem ends_with {p : List UInt8} {n : Int} (hp : p.getLast? = some 10) (h0 : 0 ≤ n) (h1 : n ≤ 2147483647) : endsS (p ++ tailX n) = endsS p ++ [((p ++ tailX n).length : Int)] := by
  rw [ends_append _ hp, ends_tail h0 h1, List.map_cons, List.map_nil, List.length_append]
  congr 2
theorem ends_text {n : Int} (h0 : 0 ≤ n) (h1 : n ≤ 9) : endsS (textX n) = [] ∧ (textX n).getLast? = some 10 ∧ (textX n).length = 15 := by
  have hc : n = 0 ∨ n = 1 ∨ n = 2 ∨ n = 3 ∨ n = 4 ∨ n = 5 ∨ n = 6 ∨ n = 7 ∨ n = 8 ∨ n = 9 := by omega
  rcases hc with rfl | rfl | rfl | rfl | rfl | rfl | rfl | rfl | rfl | rfl <;> exact ⟨by decide +kernel, by decide +kernel, by decide +kernel⟩
theorem vers_text {n : Int} (h0 : 0 ≤ n) (h1 : n ≤ 9) (r : List UInt8) : versN (textX n ++ r) = some (UInt8.ofNat (48 + n.toNat)) := by
  obtain ⟨k, rfl⟩ : ∃ k : Nat, n = (k : Int) := ⟨n.toNat, by omega⟩
  have hk : k < 10 := by omega
  have hin : ¬ ((k : Int) < 0 ∨ 9 < (k : Int)) := by omega
  have hX : textX (k : Int) = pdf1 ++ [UInt8.ofNat (48 + k)] ++ [10, 37, 226, 227, 207, 211, 10] := by unfold textX; rw [if_neg hin, Int.toNat_natCast]
  rw [hX, Int.toNat_natCast]
  refine vers_yes (k := 0) ?_ (by omega) ?_ ?_ ?_
  · exact findS_hit (by decide) 0 (i := 0) (by decide) (by rfl) (fun j _ h => absurd h (by omega))
  · unfold beginsS pdf1
    simp
    exact ⟨by omega, rfl⟩
  · rfl
  · have : (UInt8.ofNat (48 + k)).toNat = 48 + k := by
      rw [UInt8.toNat_ofNat']
      omega
    omega
theorem vers_num {k : Nat} (hk : k < 10) : ((UInt8.ofNat (48 + k)).toNat : Int) - 48 = (k : Int) := by
  rw [UInt8.toNat_ofNat']
  omega
theorem last_sxr {p r : List UInt8} (hr : (115 : UInt8) ∉ r) : lastS (p ++ (sxrW ++ r)) sxrW = (p.length : Int) := by
  have ho : Lib.occAt (p ++ (sxrW ++ r)) sxrW p.length = true := by
    unfold Lib.occAt
    rw [List.drop_left, List.isPrefixOf_iff_prefix]
    exact List.prefix_append _ _
  have hno : ∀ j, p.length < j → Lib.occAt (p ++ (sxrW ++ r)) sxrW j = false := by
    intro j hj
    refine Bool.eq_false_iff.2 fun h => ?_
    have h0 := (occ_iff _ _ _).1 h 0 (by decide)
    rw [Nat.add_zero, List.getElem?_append_right (by omega)] at h0
    have h1 : sxrW ++ r = 115 :: ([116, 97, 114, 116, 120, 114, 101, 102] ++ r) := rfl
    rw [h1, List.getElem?_cons, if_neg (by omega)] at h0
    have hm := List.mem_of_getElem? h0
    rw [List.mem_append] at hm
    rcases hm with h | h
    · revert h; decide
    · exact hr h
  rcases lastS_spec (s := p ++ (sxrW ++ r)) (part := sxrW) (by decide) with ⟨_, h⟩ | ⟨k, _, h, h2, h3⟩
  · rw [h] at ho; cases ho
  · rw [h]
    by_cases hk : k < p.length
    · rw [h3 p.length hk] at ho; cases ho
    · by_cases hk2 : p.length < k
      · rw [hno _ hk2] at h2; cases h2
      · omega
theorem tail_next {p : List UInt8} {n : Int} (h0 : 0 ≤ n) (h1 : n ≤ 2147483647) : lastS (p ++ tailX n) sxrW = (p.length : Int) ∧ nxR (p ++ tailX n) ((p.length : Int) + 9) = ⟨0, 1, (Lib.itoa n).length, n, []⟩ := by
  have hX : tailX n = sxrW ++ (10 :: (Lib.itoa n ++ [10, 37, 37, 69, 79, 70, 10])) := by
    rw [tail_in (by omega), List.append_assoc]
    rfl
  rw [hX]
  refine ⟨last_sxr ?_, ?_⟩
  · rw [List.mem_cons, List.mem_append]
    rintro (h | h | h)
    · revert h; decide
    · exact (dig_not (itoa_dig h0 _ h)).2.1 rfl
    · revert h; decide
  · have hw := int_whole n (by omega) h1
    obtain ⟨⟨c, t, hct, hcw, hc37⟩, _⟩ := hw.1, hw.2
    have hlen : (9 : Nat) = sxrW.length := rfl
    rw [show ((p.length : Int) + 9) = ((p.length + 9 : Nat) : Int) by omega]
    unfold nxR
    rw [if_neg (by simp [sxrW]; omega), Int.toNat_natCast]
    have hd : (p ++ (sxrW ++ (10 :: (Lib.itoa n ++ [10, 37, 37, 69, 79, 70, 10])))).drop (p.length + 9) = 10 :: (Lib.itoa n ++ [10, 37, 37, 69, 79, 70, 10]) := by
      rw [← List.append_assoc, show p.length + 9 = (p ++ sxrW).length by rw [List.length_append]; rfl, List.drop_left]
    have hs : skipN false (10 :: (Lib.itoa n ++ [10, 37, 37, 69, 79, 70, 10])) = 1 := by
      rw [skipN_white _ (by decide), hct, List.cons_append, skipN_stop _ hcw hc37]
    unfold nextR nextI
    rw [hd, hs, ← List.drop_drop, hd]
    show tokR (Lib.itoa n ++ [10, 37, 37, 69, 79, 70, 10]) = _
    obtain ⟨last, hl⟩ : ∃ last, (Lib.itoa n).getLast? = some last := by
      rw [hct]
      exact ⟨_, List.getLast?_eq_some_getLast (by simp)⟩
    refine whole_more hw hl ?_
    intro d u h
    obtain rfl : 10 = d := (List.cons.inj h).1
    unfold runOnS
    rw [show regularS 10 = false by decide, Bool.and_false]
theorem start_tail {p : List UInt8} {n : Int} (h0 : 0 ≤ n) (h1 : n ≤ 2147483647) : (n < ((p ++ tailX n).length : Int) → startX (p ++ tailX n) = n ∧ startE (p ++ tailX n) = 0) ∧ (¬ n < ((p ++ tailX n).length : Int) → startX (p ++ tailX n) = 0 ∧ startE (p ++ tailX n) = 18) := by
  obtain ⟨ha, hb⟩ := tail_next (p := p) h0 h1
  have hbad : startBad (p ++ tailX n) ↔ ¬ n < ((p ++ tailX n).length : Int) := by
    unfold startBad
    rw [ha, hb]
    simp only []
    constructor
    · rintro (h | h | h | h | h) <;> omega
    · intro h
      exact .inr (.inr (.inr (.inr (by omega))))
  constructor
  · intro h
    have hg : ¬ startBad (p ++ tailX n) := fun hb => hbad.1 hb h
    obtain ⟨h1, h2⟩ := start_good hg
    rw [h1, h2, ha, hb]
    exact ⟨rfl, rfl⟩
  · intro h
    exact start_bad (hbad.2 h)
end Go.Proofs.YtdpbpdikgcepbaaGreatDoor
namespace Go.Proofs.YtdpbpdikgcepbaaGreatDoor
open Go.RowKit Go.Shelf Oct Fix Lex

/-- What HeadBack asks, at given arguments: the header, the tail and the text between, and all answers. -/
structure BackAt (s : ByteArray) (n m : Int) (H T Z : ByteArray) (e : Nat) (E : List Int) : Prop where
  hH : bOf (textX n) = H
  hT : bOf (tailX m) = T
  hZ : H ++ s ++ ⟨#[10]⟩ ++ T = Z
  sH : H.size ≤ 100
  sT : T.size ≤ 100
  sZ : Z.size ≤ 4000
  sEq : (H.size : Int) + s.size + 1 + T.size = Z.size
  hE : endsS Z.data.toList = E ++ [(Z.size : Int)]
  he : E.length = e
  hV : versV (versN Z.data.toList) = .tuple #[.int .i64 1, .int .i64 n, .int .i64 0]
  hS : (m < (Z.size : Int) → startX Z.data.toList = m ∧ startE Z.data.toList = 0) ∧ (¬ m < (Z.size : Int) → startX Z.data.toList = 0 ∧ startE Z.data.toList = 18)
theorem back_at (s : ByteArray) {n m : Int} (hs : s.size ≤ 3000) (n0 : 0 ≤ n) (n9 : n ≤ 9) (m0 : 0 ≤ m) (m1 : m ≤ 2147483647) : ∃ H T Z e E, BackAt s n m H T Z e E := by
  obtain ⟨H, hH⟩ : ∃ H, bOf (textX n) = H := ⟨_, rfl⟩
  obtain ⟨T, hT⟩ : ∃ T, bOf (tailX m) = T := ⟨_, rfl⟩
  have lH : H.data.toList = textX n := by rw [← hH]; rfl
  have lT : T.data.toList = tailX m := by rw [← hT]; rfl
  obtain ⟨t1, t2, t3⟩ := ends_text n0 n9
  have lTl : (tailX m).length ≤ 40 := by
    rw [tail_in (by omega)]
    have := itoa_small m0 m1
    simp [sxr]
    omega
  have szH : H.size = 15 := by rw [← t3, ← lH]; simp
  have szT : T.size = (tailX m).length := by rw [← lT]; simp
  obtain ⟨Z, hZ⟩ : ∃ Z, H ++ s ++ ⟨#[10]⟩ ++ T = Z := ⟨_, rfl⟩
  have lZ : Z.data.toList = (textX n ++ s.data.toList ++ [10]) ++ tailX m := by
    rw [← hZ, ByteArray.data_append, ByteArray.data_append, ByteArray.data_append, Array.toList_append, Array.toList_append, Array.toList_append, lH, lT]
  have szZ : Z.size = Z.data.toList.length := by simp
  have szs : s.size = s.data.toList.length := by simp
  have lp : (textX n ++ s.data.toList ++ [10]).getLast? = some 10 := by rw [List.getLast?_append]; rfl
  have ee := ends_with lp m0 m1
  rw [← lZ, ← szZ] at ee
  have szl : Z.size = 15 + s.size + 1 + T.size := by
    rw [szZ, lZ, szT, szs]
    simp only [List.length_append, t3]
    rfl
  refine ⟨H, T, Z, _, endsS (textX n ++ s.data.toList ++ [10]), hH, hT, hZ, by omega, by omega, by omega, by omega, ee, rfl, ?_, ?_⟩
  · rw [lZ, List.append_assoc, List.append_assoc, vers_text n0 n9]
    obtain ⟨k, rfl⟩ : ∃ k : Nat, n = (k : Int) := ⟨n.toNat, by omega⟩
    unfold versV
    simp only [Int.toNat_natCast]
    rw [vers_num (by omega)]
  · have h := start_tail (p := textX n ++ s.data.toList ++ [10]) m0 m1
    rw [← lZ, ← szZ] at h
    exact h

theorem succ_ne (e : Nat) : ¬ (e : Int) + 1 = 0 := by omega
theorem wrap_small {e : Nat} (h : e ≤ 1000000) : wrap64 (e : Int) = (e : Int) := IntWalk.wrap64_in _ (by omega)
set_option maxRecDepth 100000 in
set_option maxHeartbeats 16000000 in
theorem hdBack_in (s : ByteArray) (n m : Int) (H T Z : ByteArray) (e : Nat) (E : List Int) (w : World) (hs : s.size ≤ 3000) (n0 : 0 ≤ n) (n9 : n ≤ 9) (m0 : 0 ≤ m) (m1 : m ≤ 10000) (h : BackAt s n m H T Z e E) (ht : Tab10 w) (hm : MaxLenAt w) :
    Calls Tryz.prog 4 #[.string s, .int .i64 n, .int .i64 m] w fun e w' => e = .returned (.bool true) ∧ Below w.heap.size w w' := by
  obtain ⟨hH, hT, hZ, sH, sT, sZ, sEq, hE, he, hV, hS⟩ := h
  have HT0 := Lib.hid ht
  have HM0 := Lib.hid hm
  have HB0 := Lib.hid (Below.refl w.heap.size w)
  clear ht hm
  have c1 : ∀ W, Tab10 W → Calls Tryz.prog 10 #[.int .i64 n] W fun e w' => e = .returned (.tuple #[.string H, .int .i64 0]) ∧ Below W.heap.size W w' := fun W hW => by
    have := htext_any n W (by omega) hW
    rw [hH, (htx_in (n := n) (by omega)).2] at this
    exact this
  have c2 : ∀ W, Tab10 W → Calls Tryz.prog 14 #[.int .i64 m] W fun e w' => e = .returned (.string T) ∧ Below W.heap.size W w' := fun W hW => hT ▸ tail_any m W hW
  have c3 : ∀ W, MaxLenAt W → Calls Tryz.prog 8 #[.string Z] W fun e w' => e = .returned (.tuple #[.int .i64 1, .int .i64 n, .int .i64 0]) ∧ Below W.heap.size W w' := fun W hW =>
    (vers_any Z W (by omega) hW).mono fun e w' ⟨h1, h2⟩ => ⟨h1.trans (by rw [hV]), drewN_below h2⟩
  have c5 := fun (W : World) (hW : MaxLenAt W) => ends_any Z W (by omega) hW
  have hl1 : (E ++ [(Z.size : Int)]).length = e + 1 := by rw [List.length_append, he]; rfl
  simp only [hE, hl1] at c5
  have hlast : (intCells (E ++ [(Z.size : Int)]))[e]? = some (.int .i64 (Z.size : Int)) := by
    unfold intCells
    rw [List.map_append, List.getElem?_append_right (by rw [List.length_map]; omega), List.length_map, he, Nat.sub_self]
    rfl
  obtain ⟨P, hP⟩ : ∃ P, startX Z.data.toList = P := ⟨_, rfl⟩
  obtain ⟨Q, hQ⟩ : ∃ Q, startE Z.data.toList = Q := ⟨_, rfl⟩
  have c4 : ∀ W, MaxLenAt W → Calls Tryz.prog 12 #[.string Z] W fun e w' => e = .returned (.tuple #[.int .i64 P, .int .i64 Q]) ∧ Below W.heap.size W w' := fun W hW => hP ▸ hQ ▸ start_any Z W (by omega) hW
  rw [hP, hQ] at hS
  have HE := Lib.hid (show e ≤ 1000000 by
    have := ends_len Z.data.toList
    rw [hE, hl1] at this
    have h2 : Z.data.toList.length = Z.size := by simp
    omega)
  have HL := Lib.hid hlast
  have H1 := Lib.hid c1
  have H2 := Lib.hid c2
  have H3 := Lib.hid c3
  have H4 := Lib.hid c4
  have H5 := Lib.hid c5
  have HS := Lib.hid hS
  have HQ := Lib.hid sEq
  have HZ := Lib.hid hZ
  clear c1 c2 c3 c4 c5 hlast hH hT hE he hV hS hP hQ hl1 sEq hZ
  have f1 : ¬ (3000 : Int) < (s.size : Int) := by omega
  have f2 : ¬ m < 0 := by omega
  have f3 : ¬ (10000 : Int) < m := by omega
  have f4 : ¬ n < 0 := by omega
  have f5 : ¬ (9 : Int) < n := by omega
  go_enter Tryz.func4, Tryz.ntmps4
  go_wp2_with fail
  refine (hdLives_any _ HT0.out HM0.out).mono ?_
  rintro e w1 ⟨rfl, hb⟩
  have HB1 := Lib.hid (HB0.out.trans (hb.mono HB0.out.size))
  have HT1 := Lib.hid (tab10_below HT0.out HB1.out (Nat.le_refl _))
  have HM1 := Lib.hid (HM0.out.below HB1.out)
  clear hb
  go_wp2_with fail
  refine (H1.out _ HT1.out).mono ?_
  rintro e w2 ⟨rfl, hb⟩
  have HB2 := Lib.hid (HB1.out.trans (hb.mono HB1.out.size))
  have HT2 := Lib.hid (tab10_below HT0.out HB2.out (Nat.le_refl _))
  have HM2 := Lib.hid (HM0.out.below HB2.out)
  clear hb
  go_wp2_with fail
  refine (H2.out _ HT2.out).mono ?_
  rintro e w3 ⟨rfl, hb⟩
  have HB3 := Lib.hid (HB2.out.trans (hb.mono HB2.out.size))
  have HT3 := Lib.hid (tab10_below HT0.out HB3.out (Nat.le_refl _))
  have HM3 := Lib.hid (HM0.out.below HB3.out)
  clear hb
  go_wp2_with fail
  rw [HZ.out]
  refine (H3.out _ HM3.out).mono ?_
  rintro e w4 ⟨rfl, hb⟩
  have HB4 := Lib.hid (HB3.out.trans (hb.mono HB3.out.size))
  have HT4 := Lib.hid (tab10_below HT0.out HB4.out (Nat.le_refl _))
  have HM4 := Lib.hid (HM0.out.below HB4.out)
  clear hb
  go_wp2_with fail
  refine (H4.out _ HM4.out).mono ?_
  rintro e w5 ⟨rfl, hb⟩
  have HB5 := Lib.hid (HB4.out.trans (hb.mono HB4.out.size))
  have HT5 := Lib.hid (tab10_below HT0.out HB5.out (Nat.le_refl _))
  have HM5 := Lib.hid (HM0.out.below HB5.out)
  clear hb
  go_wp2_with fail
  refine (H5.out _ HM5.out).mono ?_
  rintro e' w6 ⟨A1, C1, rfl, hown, hb⟩
  have HB6 := Lib.hid (HB5.out.trans (hb.mono HB5.out.size))
  clear hb
  obtain ⟨g1, c1, e1, _⟩ := hown.form (by omega)
  injection e1 with e1 _ e3
  subst e1 e3
  have x := (hown.cellAt e (by omega)).trans HL.out
  have i0 : (0 : Int) ≤ (e : Int) := by omega
  have i1 : (e : Int) < (e : Int) + 1 := by omega
  have hle := HE.out
  have hne : ¬ (e : Int) + 1 = 0 := succ_ne e
  have hS := HS.out
  clear hown HS
  by_cases hmz : m < (Z.size : Int)
  · obtain ⟨rfl, rfl⟩ := hS.1 hmz
    clear hS H4
    go_wp2_with fail
    go_ret
    exact ⟨rfl, HB6.out⟩
  · obtain ⟨rfl, rfl⟩ := hS.2 (Int.not_lt.1 hmz)
    clear hS H4
    go_wp2_with fail
    go_ret
    exact ⟨rfl, HB6.out⟩

set_option maxRecDepth 100000 in
set_option maxHeartbeats 16000000 in
theorem hdBack_any (s : ByteArray) (n m : Int) (w : World) (ht : Tab10 w) (hm : MaxLenAt w) :
    Calls Tryz.prog 4 #[.string s, .int .i64 n, .int .i64 m] w fun e w' => e = .returned (.bool true) ∧ Below w.heap.size w w' := by
  by_cases hb : s.size ≤ 3000 ∧ 0 ≤ m ∧ m ≤ 10000 ∧ 0 ≤ n ∧ n ≤ 9
  · obtain ⟨h1, h2, h3, h4, h5⟩ := hb
    obtain ⟨H, T, Z, e, E, h⟩ := back_at s h1 h4 h5 h2 (by omega : m ≤ 2147483647)
    exact hdBack_in s n m H T Z e E w h1 h4 h5 h2 h3 h ht hm
  · have HT0 := Lib.hid ht
    have HM0 := Lib.hid hm
    have hp : (decide ((3000 : Int) < (s.size : Int)) || decide (m < 0) || decide ((10000 : Int) < m) || decide (n < 0) || decide ((9 : Int) < n)) = true := by
      simp only [Bool.or_eq_true, decide_eq_true_eq]
      omega
    clear ht hm hb
    go_enter Tryz.func4, Tryz.ntmps4
    go_wp2_with fail
    refine (hdLives_any _ HT0.out HM0.out).mono ?_
    rintro e w1 ⟨rfl, hb⟩
    go_wp2_with fail
    all_goals (go_ret; exact ⟨rfl, hb⟩)
end Go.Proofs.YtdpbpdikgcepbaaGreatDoor
