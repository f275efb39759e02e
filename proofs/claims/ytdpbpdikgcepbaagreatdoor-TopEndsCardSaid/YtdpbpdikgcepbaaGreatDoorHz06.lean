/-
  Lemmas and walks, joined: LexMath, LexA, LexF.
-/
import Derived.Test.YtdpbpdikgcepbaaGreatDoorHz02
import Derived.Test.YtdpbpdikgcepbaaGreatDoorHz05
import Derived.Test.YtdpbpdikgcepbaaGreatDoorHz04
import Derived.Lib.Hide
import Derived.BigQuiet
import Derived.IntWalk
import Derived.Laws.IdiomStrings
import Derived.Outline
namespace Go.Proofs.YtdpbpdikgcepbaaGreatDoor.Lex
open Go.Proofs.YtdpbpdikgcepbaaGreatDoor.Oct Go.Proofs.YtdpbpdikgcepbaaGreatDoor.Fix

/-- What is read at the start of a list: an error, or a kind, how many bytes it takes, its number, its text. -/
structure TR where
  err : Int
  kind : Int
  len : Nat
  num : Int
  txt : List UInt8

def bad (e : Int) : TR := ⟨e, 0, 0, 0, []⟩
def mark (l : List UInt8) : TR := ⟨0, 6, l.length, 0, l⟩

/-- A name's bytes, each # with its two digits replaced. -/
def decL : List UInt8 → Option (List UInt8)
  | [] => some []
  | [c] => if c = 35 then none else some [c]
  | [c, d] => if c = 35 then none else if d = 35 then none else some [c, d]
  | c :: a :: b :: t => if c = 35 then (if 0 ≤ digitS a ∧ 0 ≤ digitS b ∧ ¬ 16 * digitS a + digitS b = 0 then (decL t).map (pairByte a b :: ·) else none) else (decL (a :: b :: t)).map (c :: ·)
theorem decL_nil : decL [] = some [] := by rw [decL]
theorem decL_plain {c : UInt8} (t : List UInt8) (h : ¬ c = 35) : decL (c :: t) = (decL t).map (c :: ·) := by
  rcases t with _ | ⟨a, _ | ⟨b, t⟩⟩
  · rw [decL, decL, if_neg h]; rfl
  · rw [decL, decL, if_neg h]
    by_cases h2 : a = 35
    · rw [if_pos h2, if_pos h2]; rfl
    · rw [if_neg h2, if_neg h2]; rfl
  · rw [decL, if_neg h]
theorem decL_hash {a b : UInt8} (t : List UInt8) (h : 0 ≤ digitS a ∧ 0 ≤ digitS b ∧ ¬ 16 * digitS a + digitS b = 0) : decL (35 :: a :: b :: t) = (decL t).map (pairByte a b :: ·) := by
  rw [decL, if_pos rfl, if_pos h]
theorem decL_bad {a b : UInt8} (t : List UInt8) (h : ¬ (0 ≤ digitS a ∧ 0 ≤ digitS b ∧ ¬ 16 * digitS a + digitS b = 0)) : decL (35 :: a :: b :: t) = none := by
  rw [decL, if_pos rfl, if_neg h]
theorem decL_short (t : List UInt8) (h : t.length < 2) : decL (35 :: t) = none := by
  rcases t with _ | ⟨a, _ | ⟨b, t⟩⟩
  · rw [decL, if_pos rfl]
  · rw [decL, if_pos rfl]
  · simp at h; omega
def runL (l : List UInt8) : List UInt8 := l.takeWhile regularS
def nameR (t : List UInt8) : TR :=
  match decL (runL t) with
  | none => bad 3
  | some n => if 127 < n.length then bad 5 else ⟨0, 4, 1 + (runL t).length, 0, n⟩

/-- Up to k octal digits behind n: the number, and how many they are. -/
def octD (c : UInt8) : Bool := decide (48 ≤ c.toNat) && decide (c.toNat ≤ 55)
def octN : Nat → Nat → List UInt8 → Nat × Nat
  | 0, n, _ => (n, 0)
  | _ + 1, n, [] => (n, 0)
  | k + 1, n, c :: t => if octD c then ((octN k (8 * n + (c.toNat - 48)) t).1, (octN k (8 * n + (c.toNat - 48)) t).2 + 1) else (n, 0)
/-- What a backslash denotes, and how many bytes behind it that takes. -/
def escL : List UInt8 → List UInt8 × Nat
  | [] => ([], 0)
  | c :: t => if c = 110 then ([10], 1) else if c = 114 then ([13], 1) else if c = 116 then ([9], 1) else if c = 98 then ([8], 1) else if c = 102 then ([12], 1)
    else if c = 13 then ([], lineN (c :: t)) else if c = 10 then ([], lineN (c :: t))
    else if octD c then ([UInt8.ofNat ((octN 3 0 (c :: t)).1 % 256)], (octN 3 0 (c :: t)).2) else ([c], 1)
def pre (l : List UInt8) (n : Nat) : Option (List UInt8 × Nat) → Option (List UInt8 × Nat) := Option.map fun x => (l ++ x.1, n + x.2)
theorem pre_pre (l m : List UInt8) (a b : Nat) (x : Option (List UInt8 × Nat)) : pre l a (pre m b x) = pre (l ++ m) (a + b) x := by
  cases x with
  | none => rfl
  | some x => simp [pre, Nat.add_assoc]
/-- A string in parentheses, from behind an opening one at depth d: its bytes, and how many of the list it takes; the first number bounds the steps. -/
def litL : Nat → Nat → List UInt8 → Option (List UInt8 × Nat)
  | 0, _, _ => none
  | _ + 1, _, [] => none
  | f + 1, d, c :: t =>
    if c = 92 then (if t = [] then none else pre (escL t).1 (1 + (escL t).2) (litL f d (t.drop (escL t).2)))
    else if c = 13 ∨ c = 10 then pre [10] (lineN (c :: t)) (litL f d ((c :: t).drop (lineN (c :: t))))
    else if c = 41 then (if d = 1 then some ([], 1) else pre [41] 1 (litL f (d - 1) t))
    else if c = 40 then pre [40] 1 (litL f (d + 1) t)
    else pre [c] 1 (litL f d t)
def litR (t : List UInt8) : TR :=
  match litL t.length 1 t with
  | none => bad 4
  | some x => if 32767 < x.1.length then bad 5 else ⟨0, 3, 1 + x.2, 0, x.1⟩

/-- A string of digits to the base 16, from behind its opening mark: the error, the digits, how many bytes it takes. -/
def hexL : List UInt8 → Int × List UInt8 × Nat
  | [] => (4, [], 0)
  | c :: t => if c = 62 then (0, [], 1) else if 0 ≤ digitS c then ((hexL t).1, c :: (hexL t).2.1, 1 + (hexL t).2.2) else if whiteS c then ((hexL t).1, (hexL t).2.1, 1 + (hexL t).2.2) else (3, [], 0)
def evenL (l : List UInt8) : List UInt8 := if l.length % 2 = 1 then l ++ [48] else l
def hexR (t : List UInt8) : TR :=
  if (hexL t).1 = 0 then
    (match unhexS (evenL (hexL t).2.1) with
    | none => bad 3
    | some x => if 32767 < x.length then bad 5 else ⟨0, 3, 1 + (hexL t).2.2, 0, x⟩)
  else bad (hexL t).1

/-- A run of regular bytes. -/
def intL (u : List UInt8) : Bool := (bodyL u).all isDig && !(bodyL u).isEmpty
def intN (u : List UInt8) : Int := if minusL u then -(valL 0 (bodyL u)) else valL 0 (bodyL u)
def wordU (u : List UInt8) : TR :=
  if intL u then (if 2147483647 < valL 0 (bodyL u) then bad 2 else ⟨0, 1, u.length, intN u, []⟩)
  else if u.contains 46 && decide (readE u = 0) then ⟨0, 2, u.length, readN u, []⟩
  else if u.contains 46 && decide (readE u = 2) then bad 2
  else if 127 < u.length then bad 5 else ⟨0, 5, u.length, 0, u⟩

/-- The token that begins a list whose first byte is neither white nor a comment's. -/
def tokR : List UInt8 → TR
  | [] => ⟨0, 0, 0, 0, []⟩
  | c :: t =>
    if c = 91 then mark [c] else if c = 93 then mark [c] else if c = 123 then mark [c] else if c = 125 then mark [c]
    else if c = 60 then (if t.head? = some 60 then mark [60, 60] else hexR t)
    else if c = 62 then (if t.head? = some 62 then mark [62, 62] else bad 3)
    else if c = 41 then bad 3
    else if c = 40 then litR t
    else if c = 47 then nameR t
    else wordU (runL (c :: t))
/-- The next token of l from offset a: the token of what is left behind white bytes and comments. -/
def nextI (l : List UInt8) (a : Nat) : Nat := a + skipN false (l.drop a)
def nextR (l : List UInt8) (a : Nat) : TR := tokR (l.drop (nextI l a))

/-! What the loops carry on. -/
theorem run_more {l : List UInt8} {k : Nat} (h : k < l.length) (hk : (l.take k).all regularS = true) (hc : regularS l[k] = true) : (l.take (k + 1)).all regularS = true := by
  rw [List.take_succ_eq_append_getElem h, List.all_append, hk]
  simp [hc]
theorem run_stop {l : List UInt8} {k : Nat} (h : k < l.length) (hk : (l.take k).all regularS = true) (hc : regularS l[k] = false) : runL l = l.take k := by
  have e : l = l.take k ++ l[k] :: l.drop (k + 1) := by rw [List.getElem_cons_drop, List.take_append_drop]
  unfold runL
  rw [List.all_eq_true] at hk
  conv => lhs; rw [e]
  rw [List.takeWhile_append_of_pos hk, List.takeWhile_cons, hc]
  simp
theorem run_all {l : List UInt8} (hk : l.all regularS = true) : runL l = l := by
  unfold runL
  induction l with
  | nil => rfl
  | cons c l ih =>
    rw [List.all_cons, Bool.and_eq_true] at hk
    rw [List.takeWhile_cons, hk.1, if_pos rfl, ih hk.2]
theorem dig_val_more (l : List UInt8) (k : Nat) (h : k < l.length) (hd : l.all isDig = true) : valL 0 (l.take (k + 1)) = 10 * valL 0 (l.take k) + ((l[k].toNat : Int) - 48) ∧ valL 0 (l.take (k + 1)) ≤ valL 0 l :=
  ⟨valL_more l k h, (valL_take l (k + 1) hd).2⟩

theorem lit_back {f d : Nat} {c : UInt8} {t : List UInt8} (h : c = 92) (ht : t ≠ []) : litL (f + 1) d (c :: t) = pre (escL t).1 (1 + (escL t).2) (litL f d (t.drop (escL t).2)) := by rw [litL, if_pos h, if_neg ht]
theorem lit_cut {f d : Nat} {c : UInt8} (h : c = 92) : litL (f + 1) d [c] = none := by rw [litL, if_pos h, if_pos rfl]
theorem lit_line {f d : Nat} {c : UInt8} {t : List UInt8} (h : c = 13 ∨ c = 10) : litL (f + 1) d (c :: t) = pre [10] (lineN (c :: t)) (litL f d ((c :: t).drop (lineN (c :: t)))) := by
  rw [litL, if_neg (by rcases h with rfl | rfl <;> decide), if_pos h]
theorem lit_close {f d : Nat} {c : UInt8} {t : List UInt8} (h : c = 41) (hd : ¬ d = 1) : litL (f + 1) d (c :: t) = pre [41] 1 (litL f (d - 1) t) := by
  subst h
  rw [litL, if_neg (by decide), if_neg (by decide), if_pos rfl, if_neg hd]
theorem lit_done {f : Nat} {c : UInt8} {t : List UInt8} (h : c = 41) : litL (f + 1) 1 (c :: t) = some ([], 1) := by
  subst h
  rw [litL, if_neg (by decide), if_neg (by decide), if_pos rfl, if_pos rfl]
theorem lit_open {f d : Nat} {c : UInt8} {t : List UInt8} (h : c = 40) : litL (f + 1) d (c :: t) = pre [40] 1 (litL f (d + 1) t) := by
  subst h
  rw [litL, if_neg (by decide), if_neg (by decide), if_neg (by decide), if_pos rfl]
theorem lit_plain {f d : Nat} {c : UInt8} {t : List UInt8} (h1 : ¬ c = 92) (h2 : ¬ (c = 13 ∨ c = 10)) (h3 : ¬ c = 41) (h4 : ¬ c = 40) : litL (f + 1) d (c :: t) = pre [c] 1 (litL f d t) := by
  rw [litL, if_neg h1, if_neg h2, if_neg h3, if_neg h4]
theorem lit_end {f d : Nat} : litL f d [] = none := by cases f <;> rw [litL]

/-- What the loop over a string in parentheses has done: k bytes of l are read, the text is out, the depth d, f steps are left. -/
def LitAt (l : List UInt8) (k : Nat) (out : List UInt8) (d f : Nat) : Prop := litL l.length 1 l = pre out k (litL f d (l.drop k)) ∧ l.length - k ≤ f
theorem LitAt.zero (l : List UInt8) : LitAt l 0 [] 1 l.length := by
  refine ⟨?_, by omega⟩
  cases hx : litL l.length 1 l with
  | none => rw [List.drop_zero, hx]; rfl
  | some x => rw [List.drop_zero, hx]; simp [pre]
theorem LitAt.step {l out m : List UInt8} {k n d d' f : Nat} (h : LitAt l k out d f) (hk : k < l.length) (hn : 0 < n) (he : ∀ g, litL (g + 1) d (l.drop k) = pre m n (litL g d' ((l.drop k).drop n))) : ∃ g, LitAt l (k + n) (out ++ m) d' g := by
  obtain ⟨h1, h2⟩ := h
  obtain ⟨g, rfl⟩ : ∃ g, f = g + 1 := ⟨f - 1, by omega⟩
  refine ⟨g, ?_, by omega⟩
  rw [h1, he, pre_pre, List.drop_drop]
theorem esc_pos (c : UInt8) (t : List UInt8) : 0 < (escL (c :: t)).2 := by
  have hl := lineN_pos c t
  have ho : octD c = true → 0 < (octN 3 0 (c :: t)).2 := fun h => by rw [octN, if_pos h]; exact Nat.succ_pos _
  rw [escL]
  by_cases h1 : c = 110
  · rw [if_pos h1]; exact Nat.one_pos
  rw [if_neg h1]
  by_cases h2 : c = 114
  · rw [if_pos h2]; exact Nat.one_pos
  rw [if_neg h2]
  by_cases h3 : c = 116
  · rw [if_pos h3]; exact Nat.one_pos
  rw [if_neg h3]
  by_cases h4 : c = 98
  · rw [if_pos h4]; exact Nat.one_pos
  rw [if_neg h4]
  by_cases h5 : c = 102
  · rw [if_pos h5]; exact Nat.one_pos
  rw [if_neg h5]
  by_cases h6 : c = 13
  · rw [if_pos h6]; exact hl
  rw [if_neg h6]
  by_cases h7 : c = 10
  · rw [if_pos h7]; exact hl
  rw [if_neg h7]
  by_cases h8 : octD c = true
  · rw [if_pos h8]; exact ho h8
  · rw [if_neg h8]; exact Nat.one_pos

/-- What the loop over a string of digits has done: k bytes are read, the digits are out. -/
def HexAt (l : List UInt8) (k : Nat) (out : List UInt8) : Prop := hexL l = ((hexL (l.drop k)).1, out ++ (hexL (l.drop k)).2.1, k + (hexL (l.drop k)).2.2) ∧ ∀ c ∈ out, 0 ≤ digitS c
/-- The same where the bytes ahead were no mistake. -/
theorem hex_cons_end (t : List UInt8) : hexL (62 :: t) = (0, [], 1) := by rw [hexL, if_pos rfl]
theorem hex_cons_dig {c : UInt8} (t : List UInt8) (h1 : ¬ c = 62) (h2 : 0 ≤ digitS c) : hexL (c :: t) = ((hexL t).1, c :: (hexL t).2.1, 1 + (hexL t).2.2) := by rw [hexL, if_neg h1, if_pos h2]
theorem hex_cons_white {c : UInt8} (t : List UInt8) (h1 : ¬ c = 62) (h2 : ¬ 0 ≤ digitS c) (h3 : whiteS c = true) : hexL (c :: t) = ((hexL t).1, (hexL t).2.1, 1 + (hexL t).2.2) := by rw [hexL, if_neg h1, if_neg h2, if_pos h3]
theorem hex_cons_bad {c : UInt8} (t : List UInt8) (h1 : ¬ c = 62) (h2 : ¬ 0 ≤ digitS c) (h3 : ¬ whiteS c = true) : hexL (c :: t) = (3, [], 0) := by rw [hexL, if_neg h1, if_neg h2, if_neg h3]
theorem HexAt.zero (l : List UInt8) : HexAt l 0 [] := ⟨by rw [List.drop_zero, List.nil_append, Nat.zero_add], fun _ h => by cases h⟩
theorem HexAt.dig {l out : List UInt8} {k : Nat} (h : HexAt l k out) (hk : k < l.length) (h1 : ¬ l[k] = 62) (h2 : 0 ≤ digitS l[k]) : HexAt l (k + 1) (out ++ [l[k]]) := by
  obtain ⟨h3, h4⟩ := h
  rw [List.drop_eq_getElem_cons hk, hex_cons_dig _ h1 h2] at h3
  refine ⟨h3.trans ?_, fun c hc => ?_⟩
  · simp [Nat.add_assoc]
  · rcases List.mem_append.1 hc with hc | hc
    · exact h4 c hc
    · rw [List.mem_singleton.1 hc]; exact h2
theorem HexAt.white {l out : List UInt8} {k : Nat} (h : HexAt l k out) (hk : k < l.length) (h1 : ¬ l[k] = 62) (h2 : ¬ 0 ≤ digitS l[k]) (hw : whiteS l[k] = true) : HexAt l (k + 1) out := by
  obtain ⟨h3, h4⟩ := h
  rw [List.drop_eq_getElem_cons hk, hex_cons_white _ h1 h2 hw] at h3
  exact ⟨h3.trans (by simp [Nat.add_assoc]), h4⟩
theorem HexAt.stop {l out : List UInt8} {k : Nat} (h : HexAt l k out) (hk : k < l.length) (h1 : l[k] = 62) : hexL l = (0, out, k + 1) := by
  obtain ⟨h3, _⟩ := h
  rw [List.drop_eq_getElem_cons hk, h1, hex_cons_end] at h3
  rw [h3, List.append_nil]
theorem HexAt.bad {l out : List UInt8} {k : Nat} (h : HexAt l k out) (hk : k < l.length) (h1 : ¬ l[k] = 62) (h2 : ¬ 0 ≤ digitS l[k]) (hw : ¬ whiteS l[k] = true) : (hexL l).1 = 3 := by
  obtain ⟨h3, _⟩ := h
  rw [List.drop_eq_getElem_cons hk, hex_cons_bad _ h1 h2 hw] at h3
  rw [h3]
theorem HexAt.done {l out : List UInt8} {k : Nat} (h : HexAt l k out) (hk : l.length ≤ k) : (hexL l).1 = 4 := by
  obtain ⟨h3, _⟩ := h
  rw [List.drop_of_length_le hk] at h3
  rw [h3, hexL]
theorem unhex_some (l : List UInt8) (h : ∀ c ∈ l, 0 ≤ digitS c) (he : l.length % 2 = 0) : ∃ x, unhexS l = some x := by
  induction l using unhexS.induct with
  | case1 => exact ⟨[], by rw [unhexS]⟩
  | case2 c => simp at he
  | case3 a b t hab =>
    have h1 := h a (by simp)
    have h2 := h b (by simp)
    omega
  | case4 a b t hab ih =>
    obtain ⟨x, hx⟩ := ih (fun c hc => h c (by simp [hc])) (by simp at he; omega)
    exact ⟨_, by rw [unhexS, if_neg hab, hx]; rfl⟩
theorem even_even (l : List UInt8) : (evenL l).length % 2 = 0 := by
  unfold evenL
  split
  · rw [List.length_append]; simp; omega
  · omega
theorem even_dig {l : List UInt8} (h : ∀ c ∈ l, 0 ≤ digitS c) : ∀ c ∈ evenL l, 0 ≤ digitS c := by
  unfold evenL
  split
  · intro c hc
    rcases List.mem_append.1 hc with hc | hc
    · exact h c hc
    · rw [List.mem_singleton.1 hc]; decide
  · exact h
end Go.Proofs.YtdpbpdikgcepbaaGreatDoor.Lex
namespace Go.Proofs.YtdpbpdikgcepbaaGreatDoor
open Go.RowKit Oct Fix Lex

theorem lexDropAt (s : ByteArray) (a k : Nat) (h : a + k < s.size) : ∃ h' : k < (s.data.toList.drop a).length, (s.data.toList.drop a)[k] = s[a + k] := by
  have h1 : k < (s.data.toList.drop a).length := by rw [List.length_drop]; simp; omega
  refine ⟨h1, ?_⟩
  rw [List.getElem_drop]
  rfl
/-- How many regular bytes stand at an offset. -/
def runN (s : ByteArray) (a : Nat) : Nat := (runL (s.data.toList.drop a)).length
theorem runN_stop {s : ByteArray} {a k : Nat} (h : a + k < s.size) (hk : ((s.data.toList.drop a).take k).all regularS = true) (hc : regularS s[a + k] = false) : runN s a = k := by
  obtain ⟨h1, h2⟩ := lexDropAt s a k h
  unfold runN
  rw [run_stop h1 hk (by rw [h2]; exact hc), List.length_take]
  omega
theorem runN_end {s : ByteArray} {a : Nat} (_h : a ≤ s.size) (hk : ((s.data.toList.drop a).take (s.size - a)).all regularS = true) : runN s a = s.size - a := by
  have e : (s.data.toList.drop a).length = s.size - a := by rw [List.length_drop]; simp
  rw [List.take_of_length_le (by omega)] at hk
  unfold runN
  rw [run_all hk, e]
theorem runN_more {s : ByteArray} {a k : Nat} (h : a + k < s.size) (hk : ((s.data.toList.drop a).take k).all regularS = true) (hc : regularS s[a + k] = true) : ((s.data.toList.drop a).take (k + 1)).all regularS = true := by
  obtain ⟨h1, h2⟩ := lexDropAt s a k h
  exact run_more h1 hk (by rw [h2]; exact hc)
theorem runN_le (s : ByteArray) (a : Nat) (h : a ≤ s.size) : a + runN s a ≤ s.size := by
  have h1 : (runL (s.data.toList.drop a)).length ≤ (s.data.toList.drop a).length := by unfold runL; exact (List.takeWhile_sublist _).length_le
  rw [List.length_drop] at h1
  have e : s.data.toList.length = s.size := by simp
  unfold runN
  omega

set_option maxHeartbeats 1000000 in
theorem run_any (s : ByteArray) (a : Nat) (w : World) (ha : a ≤ s.size) (hs : s.size ≤ 4000000000) :
    Calls Tryz.prog 65 #[.string s, .int .i64 (a : Int)] w fun e w' => e = .returned (.int .i64 ((a + runN s a : Nat) : Int)) ∧ w = w' := by
  go_enter Tryz.func65, Tryz.ntmps65
  go_wp2
  go_loop [10] (fun i => ∃ k : Nat, a + k ≤ s.size ∧ i = .int .i64 k ∧ ((s.data.toList.drop a).take k).all regularS = true) (fun i => s.size - (intOf i).toNat)
  case atStart => exact ⟨0, by omega, rfl, by simp⟩
  case round =>
    obtain ⟨k, hk, rfl, hr⟩ := hrel
    have HR := Lib.hid hr
    clear hr
    by_cases hlt : a + k < s.size
    · have l0 : (0 : Int) ≤ (a : Int) + (k : Int) := by omega
      have l1 : (a : Int) + (k : Int) < (s.size : Int) := by omega
      by_cases hc : regularS s[a + k] = true
      · go_wp2_with (go_at_call 89; refine (regular_any _ _).mono ?_; rintro e w' ⟨rfl, rfl⟩)
        go_round
        case rel => exact ⟨k + 1, by omega, by go_num, runN_more hlt HR.out hc⟩
        case measure => simp [intOf]; omega
      · have hc' : regularS s[a + k] = false := by simpa using hc
        have E := Lib.hid (runN_stop hlt HR.out hc')
        go_wp2_with (go_at_call 89; refine (regular_any _ _).mono ?_; rintro e w' ⟨rfl, rfl⟩)
        go_ret
        exact ⟨ret_int (by rw [E.out]; omega), rfl⟩
    · have E : Hid (runN s a = s.size - a) := Lib.hid (by
        have e : k = s.size - a := by omega
        rw [← e]
        rw [e]
        exact runN_end ha (by rw [← e]; exact HR.out))
      go_wp2
      go_ret
      exact ⟨ret_int (by rw [E.out]; omega), rfl⟩

set_option maxHeartbeats 1000000 in
theorem run_r (s : ByteArray) (a : Nat) (w : World) (ha : a ≤ s.size) (hs : s.size ≤ 4000000000) :
    Calls Tryz.prog 72 #[.string s, .int .i64 (a : Int)] w fun e w' => e = .returned (.int .i64 ((a + runN s a : Nat) : Int)) ∧ w = w' := by
  go_enter Tryz.func72, Tryz.ntmps72
  go_wp2
  go_loop [1] (fun i => ∃ k : Nat, a + k ≤ s.size ∧ i = .int .i64 ((a + k : Nat) : Int) ∧ ((s.data.toList.drop a).take k).all regularS = true) (fun i => s.size - (intOf i).toNat)
  case atStart => exact ⟨0, by omega, rfl, by simp⟩
  case round =>
    obtain ⟨k, hk, rfl, hr⟩ := hrel
    obtain ⟨p, hp⟩ : ∃ p, a + k = p := ⟨_, rfl⟩
    have HR := Lib.hid hr
    have HP := Lib.hid hp
    rw [hp]
    rw [hp] at hk
    clear hr hp
    by_cases hlt : p < s.size
    · have hlt' : a + k < s.size := by rw [HP.out]; exact hlt
      have ec : s[a + k] = s[p] := by congr 1
      have EC := Lib.hid ec
      clear ec
      by_cases hc : regularS s[p] = true
      · go_wp2_with (go_at_call 98; refine (regular_r _ _).mono ?_; rintro e w' ⟨rfl, rfl⟩)
        go_round
        case rel => exact ⟨k + 1, by have := HP.out; omega, by have := HP.out; congr 1; omega, runN_more hlt' HR.out (by rw [EC.out]; exact hc)⟩
        case measure => simp [intOf]; omega
      · have hc' : regularS s[p] = false := by simpa using hc
        have E := Lib.hid (runN_stop hlt' HR.out (by rw [EC.out]; exact hc'))
        go_wp2_with (go_at_call 98; refine (regular_r _ _).mono ?_; rintro e w' ⟨rfl, rfl⟩)
        go_ret
        exact ⟨ret_int (by have := HP.out; rw [E.out]; omega), rfl⟩
    · have E : Hid (runN s a = s.size - a) := Lib.hid (by
        have e : k = s.size - a := by have := HP.out; omega
        exact runN_end ha (by rw [← e]; exact HR.out))
      go_wp2
      go_ret
      exact ⟨ret_int (by rw [E.out]; omega), rfl⟩

/-- Without its sign. -/
def uns (s : ByteArray) : ByteArray := ⟨(bodyL s.data.toList).toArray⟩
theorem uns_list (s : ByteArray) : (uns s).data.toList = bodyL s.data.toList := by unfold uns; rfl
theorem uns_none {s : ByteArray} (h : s.data.toList = []) : uns s = s := by
  apply ByteArray.ext
  apply Array.ext'
  rw [uns_list, h]
  rfl
theorem uns_cons {s : ByteArray} (h : 0 < s.size) : s.data.toList = s[0] :: s.data.toList.drop 1 := by
  have hl : 0 < s.data.toList.length := by simpa using h
  have := List.drop_eq_getElem_cons hl
  rw [List.drop_zero] at this
  exact this
theorem uns_sign {s : ByteArray} (h : 0 < s.size) (hc : s[0] = 43 ∨ s[0] = 45) : uns s = s.extract 1 s.size := by
  apply ByteArray.ext
  apply Array.ext'
  rw [uns_list, uns_cons h]
  have e : (s.extract 1 s.size).data.toList = s.data.toList.drop 1 := by
    rw [ByteArray.data_extract, Array.toList_extract, List.extract_eq_take_drop, List.take_of_length_le]
    rw [List.length_drop]
    simp
  rw [e]
  unfold bodyL
  rcases hc with hc | hc
  · simp [hc]
  · simp [hc]
theorem uns_plain {s : ByteArray} (h : 0 < s.size) (h1 : s[0] ≠ 43) (h2 : s[0] ≠ 45) : uns s = s := by
  apply ByteArray.ext
  apply Array.ext'
  rw [uns_list]
  conv => lhs; rw [uns_cons h]
  unfold bodyL
  show (if s[0] = 45 then _ else if s[0] = 43 then _ else s[0] :: s.data.toList.drop 1) = _
  rw [if_neg h2, if_neg h1]
  exact (uns_cons h).symm

theorem byte_is {c : UInt8} {n : Nat} (hn : n < 256) (h : ((c.toNat : Int) == (n : Int)) = true) : c = UInt8.ofNat n := by
  have h1 : (c.toNat : Int) = n := by simpa using h
  apply UInt8.toNat_inj.1
  simp
  omega
theorem byte_isnt {c : UInt8} {n : Nat} (hn : n < 256) (h : ¬ c = UInt8.ofNat n) : ((c.toNat : Int) == (n : Int)) = false := by
  rw [beq_eq_false_iff_ne]
  intro e
  exact h (byte_is hn (by simpa using e))
theorem str_ne {s : ByteArray} (h : 0 < s.size) : s.toList.isEmpty = false := by
  rw [Lib.toList_data, uns_cons h]
  rfl

set_option maxHeartbeats 400000 in
theorem unsigned_any (s : ByteArray) (w : World) (hs : s.size ≤ 4000000000) :
    Calls Tryz.prog 90 #[.string s] w fun e w' => e = .returned (.string (uns s)) ∧ w = w' := by
  by_cases h0 : 0 < s.size
  · have hne := str_ne h0
    by_cases h1 : s[0] = 43
    · have b1 : ((s[0].toNat : Int) == 43) = true := by rw [h1]; rfl
      have E := Lib.hid (uns_sign h0 (Or.inl h1))
      clear h1
      go_enter Tryz.func90, Tryz.ntmps90
      go_wp2
      go_ret
      exact ⟨by rw [E.out]; rfl, rfl⟩
    · have b1 : ((s[0].toNat : Int) == 43) = false := byte_isnt (n := 43) (by decide) h1
      by_cases h2 : s[0] = 45
      · have b2 : ((s[0].toNat : Int) == 45) = true := by rw [h2]; rfl
        have E := Lib.hid (uns_sign h0 (Or.inr h2))
        clear h1 h2
        go_enter Tryz.func90, Tryz.ntmps90
        go_wp2
        go_ret
        exact ⟨by rw [E.out]; rfl, rfl⟩
      · have b2 : ((s[0].toNat : Int) == 45) = false := byte_isnt (n := 45) (by decide) h2
        have E := Lib.hid (uns_plain h0 h1 h2)
        clear h1 h2
        go_enter Tryz.func90, Tryz.ntmps90
        go_wp2
        go_ret
        exact ⟨by rw [E.out]; rfl, rfl⟩
  · have hl : s.data.toList = [] := List.eq_nil_of_length_eq_zero (by have e : s.data.toList.length = s.size := (by simp); omega)
    have he : s.toList = [] := by rw [Lib.toList_data]; exact hl
    have E := Lib.hid (uns_none hl)
    clear hl
    go_enter Tryz.func90, Tryz.ntmps90
    go_wp2
    go_ret
    exact ⟨by rw [E.out]; rfl, rfl⟩
end Go.Proofs.YtdpbpdikgcepbaaGreatDoor
namespace Go.Proofs.YtdpbpdikgcepbaaGreatDoor
open Go.RowKit Oct Fix Lex

/-- After j octal digits at the head of l, m is what they denote. -/
def OctAt (l : List UInt8) (j m : Nat) : Prop := octN 3 0 l = ((octN (3 - j) m (l.drop j)).1, (octN (3 - j) m (l.drop j)).2 + j) ∧ m ≤ 511 ∧ (j ≤ 1 → m ≤ 7) ∧ (j ≤ 2 → m ≤ 63)
theorem OctAt.zero (l : List UInt8) : OctAt l 0 0 := ⟨rfl, by omega, by omega, by omega⟩
theorem OctAt.more {l : List UInt8} {j m : Nat} (h : OctAt l j m) (hz : j = 0 → m = 0) (hj : j < 3) (hk : j < l.length) (hc : octD l[j] = true) : OctAt l (j + 1) (8 * m + (l[j].toNat - 48)) := by
  have hd : l[j].toNat - 48 ≤ 7 := by unfold octD at hc; simp at hc; omega
  have e : 3 - j = (3 - (j + 1)) + 1 := by omega
  have h1 := h.1
  rw [e, List.drop_eq_getElem_cons hk, octN, if_pos hc] at h1
  refine ⟨by rw [h1]; simp; omega, ?_, ?_, ?_⟩
  · have := h.2.2.2 (by omega); omega
  · intro hh; have := hz (by omega); omega
  · intro hh; have := h.2.2.1 (by omega); omega
theorem OctAt.stop {l : List UInt8} {j m : Nat} (h : OctAt l j m) (hk : j < l.length) (hc : octD l[j] = false) : octN 3 0 l = (m, j) := by
  have h1 := h.1
  rw [List.drop_eq_getElem_cons hk] at h1
  rw [h1]
  rcases 3 - j with _ | n
  · simp [octN]
  · simp [octN, hc]
theorem OctAt.short {l : List UInt8} {j m : Nat} (h : OctAt l j m) (hk : l.length ≤ j) : octN 3 0 l = (m, j) := by
  have h1 := h.1
  rw [List.drop_eq_nil_of_le hk] at h1
  rw [h1]
  rcases 3 - j with _ | n <;> simp [octN]
theorem OctAt.full {l : List UInt8} {m : Nat} (h : OctAt l 3 m) : octN 3 0 l = (m, 3) := by
  rw [h.1]; simp [octN]

theorem ret_bi {a b c d : Int} (h1 : c = a) (h2 : d = b) : Ending.returned (.tuple #[.int .u8 a, .int .i64 b]) = .returned (.tuple #[.int .u8 c, .int .i64 d]) := by rw [h1, h2]

set_option maxHeartbeats 2000000 in
theorem octal_any (s : ByteArray) (a : Nat) (w : World) (ha : a ≤ s.size) (hs : s.size ≤ 4000000000) :
    Calls Tryz.prog 88 #[.string s, .int .i64 (a : Int)] w fun e w' => e = .returned (.tuple #[.int .u8 (((octN 3 0 (s.data.toList.drop a)).1 % 256 : Nat) : Int), .int .i64 ((a + (octN 3 0 (s.data.toList.drop a)).2 : Nat) : Int)]) ∧ w = w' := by
  go_enter Tryz.func88, Tryz.ntmps88
  go_wp2
  go_loop [1, 6, 7] (fun p n i => ∃ j m : Nat, j ≤ 3 ∧ a + j ≤ s.size ∧ p = .int .i64 ((a : Int) + (j : Int)) ∧ n = .int .i64 (m : Int) ∧ i = .int .i64 (j : Int) ∧ OctAt (s.data.toList.drop a) j m ∧ (j = 0 → m = 0)) (fun _ _ i => 3 - (intOf i).toNat)
  case atStart => exact ⟨0, 0, by omega, by omega, by simp, rfl, rfl, OctAt.zero _, fun _ => rfl⟩
  case round =>
    obtain ⟨j, m, hj, hk, rfl, rfl, rfl, hr, hz⟩ := hrel
    have HR := Lib.hid hr
    have HZ := Lib.hid hz
    have hm := hr.2.1
    clear hr hz
    have len : (s.data.toList.drop a).length = s.size - a := by rw [List.length_drop]; simp
    have HLen := Lib.hid len
    clear len
    by_cases h3 : j = 3
    · subst h3
      have E := Lib.hid HR.out.full
      go_wp2_with fail
      go_ret2
      exact ⟨ret_bi (by rw [E.out] <;> first | done | (simp; done) | (simp; omega) | omega) (by rw [E.out] <;> first | done | (simp; done) | (simp; omega) | omega), rfl⟩
    · have hj3 : j < 3 := by omega
      by_cases hlt : a + j < s.size
      · have l0 : (0 : Int) ≤ (a : Int) + (j : Int) := by omega
        have l1 : (a : Int) + (j : Int) < (s.size : Int) := by omega
        have l2 : ¬ ((a : Int) + (j : Int) = (s.size : Int)) := by omega
        obtain ⟨d1, d2⟩ := lexDropAt s a j hlt
        by_cases h1 : (s[a + j].toNat : Int) < 48
        · have E := Lib.hid (HR.out.stop d1 (by rw [d2]; unfold octD; simp; omega))
          clear d2
          go_wp2_with fail
          go_ret2
          exact ⟨ret_bi (by rw [E.out] <;> first | done | (simp; done) | (simp; omega) | omega) (by rw [E.out] <;> first | done | (simp; done) | (simp; omega) | omega), rfl⟩
        · by_cases h2 : 55 < (s[a + j].toNat : Int)
          · have E := Lib.hid (HR.out.stop d1 (by rw [d2]; unfold octD; simp; omega))
            clear d2
            go_wp2_with fail
            go_ret2
            exact ⟨ret_bi (by rw [E.out] <;> first | done | (simp; done) | (simp; omega) | omega) (by rw [E.out] <;> first | done | (simp; done) | (simp; omega) | omega), rfl⟩
          · have E := Lib.hid (HR.out.more HZ.out hj3 d1 (by rw [d2]; unfold octD; simp; omega))
            have D2 := Lib.hid d2
            clear d2
            go_wp2_with fail
            exact ⟨⟨j + 1, 8 * m + (s[a + j].toNat - 48), by omega, by omega, by go_num, by go_num, by go_num, by rw [← D2.out]; exact E.out, fun h => by omega⟩, by simp [intOf]; omega⟩
      · have E := Lib.hid (HR.out.short (by rw [HLen.out]; omega))
        have ek : a + j = s.size := by omega
        have l2 : (a : Int) + (j : Int) = (s.size : Int) := by omega
        go_wp2_with fail
        go_ret2
        exact ⟨ret_bi (by rw [E.out] <;> first | done | (simp; done) | (simp; omega) | omega) (by rw [E.out] <;> first | done | (simp; done) | (simp; omega) | omega), rfl⟩
end Go.Proofs.YtdpbpdikgcepbaaGreatDoor
