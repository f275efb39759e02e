/-
  What a writer holds behind each call of a list, and what a reader of its last bytes finds at each: plain mathematics over lists of calls.
-/
import Derived.Test.YtcgejhlhbokpiaaBitBm
import Derived.Test.YtcgejhlhbokpiaaBitQ
namespace Go.Proofs.Ytcgejhlhbokpiaa
open Bt

def dC : Call := ⟨0, 0, 0, ⟨#[]⟩⟩
/-- The number of bits, and the value that fits into it. -/
def numN (n : Int) : Nat := (n.tmod 25).natAbs
def numV (n v : Int) : Nat := (v.tmod (2 ^ numN n)).natAbs
theorem numN_lt (n : Int) : numN n < 25 := by
  unfold numN
  have h1 := Int.tmod_lt_of_pos n (show (0 : Int) < 25 by decide)
  have h2 := Int.lt_tmod_of_pos n (show (0 : Int) < 25 by decide)
  omega
theorem numV_lt (n v : Int) : numV n v < 2 ^ numN n := by
  unfold numV
  generalize numN n = m
  have e : ((2 : Int) ^ m) = ((2 ^ m : Nat) : Int) := (Int.natCast_pow 2 m).symm
  have h0 : 0 < 2 ^ m := Nat.two_pow_pos m
  rw [e]
  have h1 := Int.tmod_lt_of_pos v (show (0 : Int) < ((2 ^ m : Nat) : Int) by omega)
  have h2 := Int.lt_tmod_of_pos v (show (0 : Int) < ((2 ^ m : Nat) : Int) by omega)
  omega

structure St where
  l : List UInt8
  p : Nat
  o : Int
def cl (xs : List Call) (k : Nat) : Call := xs.getD k dC
/-- Is there an Align ahead of call k? -/
def needs (xs : List Call) (k : Nat) : Bool := (decide (0 < k) && decide ((cl xs k).d ≠ (cl xs (k - 1)).d)) || decide (1 < (cl xs k).d) || decide ((cl xs k).d < 0)
def ahead (xs : List Call) (k : Nat) (t : St) : St := if needs xs k then ⟨t.l, 0, 0⟩ else t
def wrS (t : St) (v n o : Int) : St := ⟨wrL t.l t.p t.o v n o, wrP t.p t.o v n o, wrO t.o v n o⟩
def after (c : Call) (t : St) : St :=
  if c.d = 0 then wrS t (numV c.n c.v) (numN c.n) 1 else if c.d = 1 then wrS t (numV c.n c.v) (numN c.n) 2 else if c.d = 3 then ⟨t.l ++ c.s.data.toList, 0, t.o⟩ else t
def st (xs : List Call) : Nat → St
  | 0 => ⟨[], 0, 0⟩
  | k + 1 => after (cl xs k) (ahead xs k (st xs k))

/-- Ahead of a call of kind d: the order is open or its own; a call that is no number begins a byte. -/
def Open (d : Int) (t : St) : Prop := Fit t.o t.l t.p ∧ (d = 0 → t.o = 0 ∨ t.o = 1) ∧ (d = 1 → t.o = 0 ∨ t.o = 2) ∧ (d ≠ 0 → d ≠ 1 → t.o = 0 ∧ t.p = 0)
theorem open_fresh (d : Int) (l : List UInt8) : Open d ⟨l, 0, 0⟩ := ⟨fit_zero _ _, fun _ => Or.inl rfl, fun _ => Or.inl rfl, fun _ _ => ⟨rfl, rfl⟩⟩
theorem open_ahead {xs : List Call} {k : Nat} {t : St} (h0 : k = 0 → t = ⟨[], 0, 0⟩) (h1 : 0 < k → Open (cl xs (k - 1)).d t) : Open (cl xs k).d (ahead xs k t) := by
  unfold ahead
  split
  · exact open_fresh _ _
  · rename_i hn
    unfold needs at hn
    simp only [Bool.or_eq_true, Bool.and_eq_true, decide_eq_true_eq, not_or, not_and, Decidable.not_not] at hn
    rcases Nat.eq_zero_or_pos k with hk | hk
    · rw [h0 hk]; exact open_fresh _ _
    · rw [hn.1.1 hk]; exact h1 hk
theorem wbad_num {ord o : Int} {n v : Int} (ho : ord = 0 ∨ ord = o) : wbad ord (numV n v) (numN n) o = false := by
  have h1 := numN_lt n
  have h2 := numV_lt n v
  have e : ((2 : Int) ^ ((numN n : Nat) : Int).toNat) = ((2 ^ numN n : Nat) : Int) := (Int.natCast_pow 2 _).symm
  have hb : bad ord (numN n) o = false := by unfold bad; simp; omega
  unfold wbad
  rw [hb, e, decide_eq_false (by omega), decide_eq_false (by omega)]
  rfl
theorem open_after {c : Call} {t : St} (h : Open c.d t) : Open c.d (after c t) := by
  obtain ⟨hf, h0, h1, h2⟩ := h
  unfold after
  by_cases e0 : c.d = 0
  · rw [if_pos e0, e0]
    have hw := wbad_num (n := c.n) (v := c.v) (h0 e0)
    refine ⟨wr_fit hf (Or.inl rfl), fun _ => ?_, fun e => absurd e (by decide), fun e => absurd rfl e⟩
    show wrO t.o _ _ 1 = 0 ∨ wrO t.o _ _ 1 = 1
    rw [(wr_ok hw t.l t.p).2.2.2]
    split
    · exact Or.inr rfl
    · exact h0 e0
  · rw [if_neg e0]
    by_cases e1 : c.d = 1
    · rw [if_pos e1, e1]
      have hw := wbad_num (n := c.n) (v := c.v) (h1 e1)
      refine ⟨wr_fit hf (Or.inr rfl), fun e => absurd e (by decide), fun _ => ?_, fun _ e => absurd rfl e⟩
      show wrO t.o _ _ 2 = 0 ∨ wrO t.o _ _ 2 = 2
      rw [(wr_ok hw t.l t.p).2.2.2]
      split
      · exact Or.inr rfl
      · exact h1 e1
    · rw [if_neg e1]
      by_cases e3 : c.d = 3
      · rw [if_pos e3]
        have hz := (h2 e0 e1).1
        exact ⟨fit_zero _ _, fun e => absurd e e0, fun e => absurd e e1, fun _ _ => ⟨hz, rfl⟩⟩
      · rw [if_neg e3]
        exact ⟨hf, h0, h1, h2⟩
theorem open_st (xs : List Call) : ∀ k, (k = 0 → st xs k = ⟨[], 0, 0⟩) ∧ (0 < k → Open (cl xs (k - 1)).d (st xs k))
  | 0 => ⟨fun _ => rfl, fun h => absurd h (by decide)⟩
  | k + 1 => ⟨fun h => absurd h (by omega), fun _ => open_after (open_ahead (open_st xs k).1 (open_st xs k).2)⟩
theorem open_at (xs : List Call) (k : Nat) : Open (cl xs k).d (ahead xs k (st xs k)) := open_ahead (open_st xs k).1 (open_st xs k).2
theorem fit_st (xs : List Call) (k : Nat) : Fit (st xs k).o (st xs k).l (st xs k).p := by
  rcases Nat.eq_zero_or_pos k with hk | hk
  · rw [(open_st xs k).1 hk]; exact fit_zero _ _
  · exact ((open_st xs k).2 hk).1

theorem after_le {c : Call} {t : St} (hs : c.s.size ≤ 300) : (after c t).l.length ≤ t.l.length + 300 := by
  unfold after
  have h1 := wr_le (l := t.l) (p := t.p) (ord := t.o) (v := numV c.n c.v) (n := numN c.n) (o := 1)
  have h2 := wr_le (l := t.l) (p := t.p) (ord := t.o) (v := numV c.n c.v) (n := numN c.n) (o := 2)
  split
  · show (wrL t.l t.p t.o _ _ 1).length ≤ _; omega
  · split
    · show (wrL t.l t.p t.o _ _ 2).length ≤ _; omega
    · split
      · show (t.l ++ c.s.data.toList).length ≤ _
        have e : c.s.data.toList.length = c.s.size := by simp
        rw [List.length_append]; omega
      · omega
theorem ahead_l (xs : List Call) (k : Nat) (t : St) : (ahead xs k t).l = t.l := by unfold ahead; split <;> rfl
theorem st_le {xs : List Call} : ∀ k, (∀ j, j < k → (cl xs j).s.size ≤ 300) → (st xs k).l.length ≤ 300 * k
  | 0, _ => by simp [st]
  | k + 1, h => by
    have h1 := st_le k (fun j hj => h j (by omega))
    have h2 := after_le (c := cl xs k) (t := ahead xs k (st xs k)) (h k (by omega))
    rw [ahead_l] at h2
    show (after _ _).l.length ≤ _
    omega

theorem after0 {c : Call} {t : St} (h : c.d = 0) (ho : t.o = 0 ∨ t.o = 1) : wrE t.o (numV c.n c.v) (numN c.n) 1 = 0 ∧ wrL t.l t.p t.o (numV c.n c.v) (numN c.n) 1 = (after c t).l ∧ wrP t.p t.o (numV c.n c.v) (numN c.n) 1 = (after c t).p ∧ wrO t.o (numV c.n c.v) (numN c.n) 1 = (after c t).o := by
  refine ⟨(wr_ok (wbad_num ho) t.l t.p).1, ?_⟩
  unfold after
  rw [if_pos h]
  exact ⟨rfl, rfl, rfl⟩
theorem after1 {c : Call} {t : St} (h : c.d = 1) (ho : t.o = 0 ∨ t.o = 2) : wrE t.o (numV c.n c.v) (numN c.n) 2 = 0 ∧ wrL t.l t.p t.o (numV c.n c.v) (numN c.n) 2 = (after c t).l ∧ wrP t.p t.o (numV c.n c.v) (numN c.n) 2 = (after c t).p ∧ wrO t.o (numV c.n c.v) (numN c.n) 2 = (after c t).o := by
  refine ⟨(wr_ok (wbad_num ho) t.l t.p).1, ?_⟩
  unfold after
  rw [if_neg (by rw [h]; decide), if_pos h]
  exact ⟨rfl, rfl, rfl⟩
theorem after3 {c : Call} {t : St} (h : c.d = 3) : after c t = ⟨t.l ++ c.s.data.toList, 0, t.o⟩ := by
  unfold after
  rw [if_neg (by rw [h]; decide), if_neg (by rw [h]; decide), if_pos h]
theorem afterX {c : Call} {t : St} (h0 : c.d ≠ 0) (h1 : c.d ≠ 1) (h3 : c.d ≠ 3) : after c t = t := by
  unfold after
  rw [if_neg h0, if_neg h1, if_neg h3]

/-- What T's reader finds, if T goes on from the state behind the call. -/
def Found (T : List UInt8) (c : Call) (t : St) : Prop :=
  (c.d = 0 → valO 1 T (pos t.l t.p) (numN c.n) = numV c.n c.v ∧ pos (after c t).l (after c t).p = pos t.l t.p + numN c.n ∧ (after c t).o = if 0 < ((numN c.n : Nat) : Int) then 1 else t.o) ∧
  (c.d = 1 → valO 2 T (pos t.l t.p) (numN c.n) = numV c.n c.v ∧ pos (after c t).l (after c t).p = pos t.l t.p + numN c.n ∧ (after c t).o = if 0 < ((numN c.n : Nat) : Int) then 2 else t.o) ∧
  (c.d = 3 → t.p = 0 ∧ (∀ j, j < c.s.data.toList.length → byt T (t.l.length + j) = byt c.s.data.toList j) ∧ pos (after c t).l (after c t).p = pos t.l t.p + 8 * c.s.size ∧ (after c t).o = t.o)

theorem found_num {T : List UInt8} {t : St} {n v o : Int} (ho : o = 1 ∨ o = 2) (hf : Fit t.o t.l t.p) (hord : t.o = 0 ∨ t.o = o) (h : Ext T (wrS t (numV n v) (numN n) o).l (wrS t (numV n v) (numN n) o).p (wrS t (numV n v) (numN n) o).o) :
    Ext T t.l t.p t.o ∧ valO o T (pos t.l t.p) (numN n) = numV n v ∧ pos (wrS t (numV n v) (numN n) o).l (wrS t (numV n v) (numN n) o).p = pos t.l t.p + numN n ∧ (wrS t (numV n v) (numN n) o).o = if 0 < ((numN n : Nat) : Int) then o else t.o := by
  have hw := wbad_num (n := n) (v := v) hord
  obtain ⟨_, e1, e2, e3⟩ := wr_ok hw t.l t.p
  have hq : 0 < t.p → t.o = o := fun hp => by rcases (hf.2 hp).2.1 with e | e <;> omega
  have e1' : (wrS t (numV n v) (numN n) o).l = puts o t.l t.p (bitO o (numV n v) (numN n)) (numN n) := e1
  have e2' : (wrS t (numV n v) (numN n) o).p = (t.p + numN n) % 8 := e2
  have e3' : (wrS t (numV n v) (numN n) o).o = if 0 < ((numN n : Nat) : Int) then o else t.o := e3
  rw [e1', e2'] at h
  have h' : Ext T (puts o t.l t.p (bitO o (numV n v) (numN n)) (numN n)) ((t.p + numN n) % 8) o := h.ord (fun hp => by
    rw [e3']
    split
    · rfl
    · rename_i h0
      have : numN n = 0 := by omega
      rw [this] at hp
      exact hq (by omega))
  obtain ⟨hE, hbits⟩ := ext_puts hf hq ho (fun _ => bitO_lt _ _ _ _) (numN n) h'
  refine ⟨hE.ord (fun hp => (hq hp).symm), valO_bits ho (numV_lt n v) hbits, ?_, e3'⟩
  rw [e1', e2']
  exact pos_puts hf hq ho (fun _ => bitO_lt _ _ _ _) (numN n)

theorem ext_after {T : List UInt8} {c : Call} {t : St} (h : Open c.d t) (hE : Ext T (after c t).l (after c t).p (after c t).o) : Ext T t.l t.p t.o ∧ Found T c t := by
  obtain ⟨hf, h0, h1, h2⟩ := h
  unfold after at hE
  by_cases e0 : c.d = 0
  · rw [if_pos e0] at hE
    have hF := found_num (Or.inl rfl) hf (h0 e0) hE
    refine ⟨hF.1, fun _ => ?_, fun e => absurd (e0.symm.trans e) (by decide), fun e => absurd (e0.symm.trans e) (by decide)⟩
    unfold after
    rw [if_pos e0]
    exact hF.2
  · rw [if_neg e0] at hE
    by_cases e1 : c.d = 1
    · rw [if_pos e1] at hE
      have hF := found_num (Or.inr rfl) hf (h1 e1) hE
      refine ⟨hF.1, fun e => absurd e e0, fun _ => ?_, fun e => absurd (e1.symm.trans e) (by decide)⟩
      unfold after
      rw [if_neg e0, if_pos e1]
      exact hF.2
    · rw [if_neg e1] at hE
      obtain ⟨z1, z2⟩ := h2 e0 e1
      by_cases e3 : c.d = 3
      · rw [if_pos e3] at hE
        have hR := ext_raw (o := t.o) hE
        refine ⟨?_, fun e => absurd e e0, fun e => absurd e e1, fun _ => ⟨z2, hR.2, ?_, ?_⟩⟩
        · rw [z2]; exact hR.1
        · unfold after
          rw [if_neg e0, if_neg e1, if_pos e3, z2]
          have e : c.s.data.toList.length = c.s.size := by simp
          show pos (t.l ++ c.s.data.toList) 0 = pos t.l 0 + 8 * c.s.size
          unfold pos
          rw [if_pos rfl, if_pos rfl, List.length_append, e]
          omega
        · unfold after
          rw [if_neg e0, if_neg e1, if_pos e3]
      · rw [if_neg e3] at hE
        exact ⟨hE, fun e => absurd e e0, fun e => absurd e e1, fun e => absurd e e3⟩

theorem ext_ahead {T : List UInt8} {xs : List Call} {k : Nat} {t : St} (hf : Fit t.o t.l t.p) (h : Ext T (ahead xs k t).l (ahead xs k t).p (ahead xs k t).o) : Ext T t.l t.p t.o := by
  unfold ahead at h
  split at h
  · exact h.align hf.ne_
  · exact h
theorem ext_st (xs : List Call) (n : Nat) : ∀ m k, k + m = n → Ext (st xs n).l (st xs k).l (st xs k).p (st xs k).o
  | 0, k, h => by
    obtain rfl : k = n := by omega
    exact Ext.self _ _ _
  | m + 1, k, h => by
    have h1 := ext_st xs n m (k + 1) (by omega)
    exact ext_ahead (fit_st xs k) (ext_after (open_at xs k) h1).1
theorem found_st (xs : List Call) (n k : Nat) (h : k < n) : Found (st xs n).l (cl xs k) (ahead xs k (st xs k)) :=
  (ext_after (open_at xs k) (ext_st xs n (n - (k + 1)) (k + 1) (by omega))).2

theorem pos_le {T l : List UInt8} {p : Nat} {o : Int} (h : Ext T l p o) (hf : Fit o l p) : pos l p ≤ 8 * T.length := by
  have h1 := h.len
  have h8 := hf.1
  unfold pos
  split
  · omega
  · have := List.length_pos_iff.2 (hf.ne_ (by omega))
    omega
theorem pos_alg {l : List UInt8} {p : Nat} {o : Int} (hf : Fit o l p) : alg (pos l p) = pos l 0 := by
  have h8 := hf.1
  unfold pos alg
  rw [if_pos rfl]
  split
  · omega
  · have := List.length_pos_iff.2 (hf.ne_ (by omega))
    omega
theorem pos_end {l : List UInt8} {p : Nat} {o : Int} (hf : Fit o l p) : (pos l p + 7) / 8 = l.length ∧ 8 * l.length - pos l p < 8 := by
  have h8 := hf.1
  unfold pos
  split
  · omega
  · have := List.length_pos_iff.2 (hf.ne_ (by omega))
    omega
theorem pos_ahead {xs : List Call} {k : Nat} {t : St} {o : Int} (hf : Fit o t.l t.p) : pos (ahead xs k t).l (ahead xs k t).p = if needs xs k then alg (pos t.l t.p) else pos t.l t.p := by
  unfold ahead
  split
  · exact (pos_alg hf).symm
  · rfl
theorem read_num {T : List UInt8} {tot a n v : Nat} {ord o : Int} (ho : ord = 0 ∨ ord = o) (hn : n ≤ 24) (ht : a + n ≤ tot) (hv : valO o T a n = v) :
    rdV T tot a ord (n : Int) o = (v : Int) ∧ rdE tot a ord (n : Int) o = 0 ∧ rdAt tot a ord (n : Int) o = a + n ∧ rdOrd tot a ord (n : Int) o = if 0 < ((n : Nat) : Int) then o else ord := by
  have hb : bad ord (n : Int) o = false := by unfold bad; simp; omega
  obtain ⟨h1, h2, h3, h4⟩ := rd_ok (tot := tot) (at_ := a) (l := T) hb (by omega)
  refine ⟨h2.trans ?_, h1, h3, h4⟩
  show ((valO o T a n : Nat) : Int) = _
  rw [hv]
theorem extract_bytes {S s : ByteArray} {a : Nat} (hl : a + s.size ≤ S.size) (h : ∀ j, j < s.data.toList.length → byt S.data.toList (a + j) = byt s.data.toList j) : S.extract a (a + s.size) = s := by
  have e1 : s.data.toList.length = s.size := by simp
  have e2 : S.data.toList.length = S.size := by simp
  apply ByteArray.ext
  rw [ByteArray.data_extract]
  apply Array.ext'
  rw [Array.toList_extract]
  apply List.ext_getElem?
  intro j
  by_cases hj : j < s.size
  · have hb := h j (by omega)
    unfold byt at hb
    rw [List.getD_eq_getElem?_getD, List.getD_eq_getElem?_getD, List.getElem?_eq_getElem (show a + j < S.data.toList.length by omega), List.getElem?_eq_getElem (show j < s.data.toList.length by omega)] at hb
    have hb' : S.data.toList[a + j]'(by omega) = s.data.toList[j]'(by omega) := UInt8.toNat_inj.1 hb
    have e : (List.extract S.data.toList a (a + s.size))[j]? = S.data.toList[a + j]? := by
      rw [List.extract_eq_take_drop, List.getElem?_take, if_pos (by omega), List.getElem?_drop]
    rw [e, List.getElem?_eq_getElem (show a + j < S.data.toList.length by omega), List.getElem?_eq_getElem (show j < s.data.toList.length by omega), hb']
  · rw [List.getElem?_eq_none (by rw [List.extract_eq_take_drop, List.length_take, List.length_drop]; omega), List.getElem?_eq_none (by omega)]
theorem ext_u (xs : List Call) (n k : Nat) (h : k < n) : Ext (st xs n).l (ahead xs k (st xs k)).l (ahead xs k (st xs k)).p (ahead xs k (st xs k)).o :=
  (ext_after (open_at xs k) (ext_st xs n (n - (k + 1)) (k + 1) (by omega))).1
/-- All that the reader's walk asks of call k. -/
theorem reader_facts (xs : List Call) (n k : Nat) (h : k < n) : pos (ahead xs k (st xs k)).l (ahead xs k (st xs k)).p ≤ 8 * (st xs n).l.length ∧ pos (st xs k).l (st xs k).p ≤ 8 * (st xs n).l.length ∧ pos (st xs (k + 1)).l (st xs (k + 1)).p ≤ 8 * (st xs n).l.length ∧
    (needs xs k = true → alg (pos (st xs k).l (st xs k).p) = pos (ahead xs k (st xs k)).l (ahead xs k (st xs k)).p ∧ (ahead xs k (st xs k)).o = 0) ∧ (needs xs k = false → ahead xs k (st xs k) = st xs k) := by
  refine ⟨pos_le (ext_u xs n k h) (open_at xs k).1, pos_le (ext_st xs n (n - k) k (by omega)) (fit_st xs k), pos_le (ext_st xs n (n - (k + 1)) (k + 1) (by omega)) (fit_st xs (k + 1)), fun hn => ?_, fun hn => ?_⟩
  · rw [pos_alg (fit_st xs k)]
    unfold ahead
    rw [if_pos hn]
    exact ⟨rfl, rfl⟩
  · unfold ahead
    rw [if_neg (by rw [hn]; decide)]
end Go.Proofs.Ytcgejhlhbokpiaa
