/-
  Plain mathematics of the layer bit: what a writer holds behind a call, bit by bit. No program in this text.
-/
import Derived.Test.YtbgechfmbogbpaaBitMath
namespace Go.Proofs.Ytbgechfmbogbpaa.Bt

/-- The bytes, with a new one where the last is complete. -/
def grow0 (l : List UInt8) (p : Nat) : List UInt8 := if p = 0 then l ++ [0] else l
/-- The last byte. -/
def lastN (l : List UInt8) : Nat := byt l (l.length - 1)
/-- One bit more: p bits of the last byte are written, none if it is complete. -/
def put1 (o : Int) (l : List UInt8) (p b : Nat) : List UInt8 := (grow0 l p).set ((grow0 l p).length - 1) (UInt8.ofNat (lastN (grow0 l p) + b * 2 ^ plc o p))
def puts (o : Int) (l : List UInt8) (p : Nat) (f : Nat → Nat) : Nat → List UInt8
  | 0 => l
  | k + 1 => put1 o (puts o l p f k) ((p + k) % 8) (f k)
/-- The k-th bit of a number of n bits, in the order in which it is written. -/
def bitO (o : Int) (v n k : Nat) : Nat := if o = 2 then v / 2 ^ (n - 1 - k) % 2 else v / 2 ^ k % 2
theorem bitO_lt (o : Int) (v n k : Nat) : bitO o v n k < 2 := by unfold bitO; split <;> exact Nat.mod_lt _ (by decide)

/-- The bits of the last byte that are not yet written are zero; the order is set where the last byte is partial. -/
def Fit (o : Int) (l : List UInt8) (p : Nat) : Prop := p < 8 ∧ (0 < p → l ≠ [] ∧ (o = 1 ∨ o = 2) ∧ ∀ q, p ≤ q → q < 8 → lastN l / 2 ^ plc o q % 2 = 0)

def zeros (o : Int) (p x : Nat) : Bool := (List.range 8).all fun q => decide (q < p) || decide (x / 2 ^ plc o q % 2 = 0)
theorem zeros_iff (o : Int) (p x : Nat) : zeros o p x = true ↔ ∀ q, p ≤ q → q < 8 → x / 2 ^ plc o q % 2 = 0 := by
  unfold zeros
  simp only [List.all_eq_true, List.mem_range, Bool.or_eq_true, decide_eq_true_eq]
  constructor
  · intro h q h1 h2
    rcases h q h2 with h | h
    · omega
    · exact h
  · intro h q h2
    by_cases h1 : q < p
    · exact Or.inl h1
    · exact Or.inr (h q (by omega) h2)
theorem fit_by {o : Int} {l : List UInt8} {p : Nat} (h8 : p < 8) (hn : l ≠ []) (ho : o = 1 ∨ o = 2) (hz : zeros o p (lastN l) = true) : Fit o l p := ⟨h8, fun _ => ⟨hn, ho, (zeros_iff _ _ _).1 hz⟩⟩
theorem fit_zero (o : Int) (l : List UInt8) : Fit o l 0 := ⟨by decide, fun h => absurd h (by decide)⟩
/-- All cases: a byte below 256, a place below 8, a bit. -/
def stepOk (o : Int) (p b x : Nat) : Bool :=
  !zeros o p x || (decide (x ||| b * 2 ^ plc o p = x + b * 2 ^ plc o p) && decide (x + b * 2 ^ plc o p < 256) && zeros o (p + 1) (x + b * 2 ^ plc o p) &&
    decide ((x + b * 2 ^ plc o p) / 2 ^ plc o p % 2 = b) && (List.range p).all fun q => decide ((x + b * 2 ^ plc o p) / 2 ^ plc o q % 2 = x / 2 ^ plc o q % 2))
def allOk (o : Int) : Bool := (List.range 8).all fun p => (List.range 2).all fun b => (List.range 256).all fun x => stepOk o p b x
theorem allOk1 : allOk 1 = true := by decide +kernel
theorem allOk2 : allOk 2 = true := by decide +kernel
theorem step_all {o : Int} {p b x : Nat} (ho : o = 1 ∨ o = 2) (hp : p < 8) (hb : b < 2) (hx : x < 256) (hz : ∀ q, p ≤ q → q < 8 → x / 2 ^ plc o q % 2 = 0) :
    x ||| b * 2 ^ plc o p = x + b * 2 ^ plc o p ∧ x + b * 2 ^ plc o p < 256 ∧ (∀ q, p + 1 ≤ q → q < 8 → (x + b * 2 ^ plc o p) / 2 ^ plc o q % 2 = 0) ∧
      (x + b * 2 ^ plc o p) / 2 ^ plc o p % 2 = b ∧ ∀ q, q < p → (x + b * 2 ^ plc o p) / 2 ^ plc o q % 2 = x / 2 ^ plc o q % 2 := by
  have h : allOk o = true := by
    rcases ho with rfl | rfl
    · exact allOk1
    · exact allOk2
  unfold allOk at h
  simp only [List.all_eq_true, List.mem_range] at h
  have h1 := h p hp b hb x hx
  unfold stepOk at h1
  rw [(zeros_iff o p x).2 hz] at h1
  simp only [Bool.not_true, Bool.false_or, Bool.and_eq_true, decide_eq_true_eq, List.all_eq_true, List.mem_range] at h1
  exact ⟨h1.1.1.1.1, h1.1.1.1.2, (zeros_iff _ _ _).1 h1.1.1.2, h1.1.2, h1.2⟩

theorem lastN_lt (l : List UInt8) : lastN l < 256 := (l.getD (l.length - 1) 0).toNat_lt
theorem grow0_ne (l : List UInt8) (p : Nat) (h : 0 < p → l ≠ []) : grow0 l p ≠ [] := by
  unfold grow0
  split
  · simp
  · exact h (by omega)
theorem grow0_len (l : List UInt8) (p : Nat) (h : 0 < p → l ≠ []) : 0 < (grow0 l p).length := List.length_pos_iff.2 (grow0_ne l p h)
theorem lastN_grow (l : List UInt8) : lastN (grow0 l 0) = 0 := by
  unfold lastN grow0 byt
  simp
/-- Whatever is written next finds the bits from p on zero. -/
theorem Fit.zeros {o o' : Int} {l : List UInt8} {p : Nat} (h : Fit o l p) (ho : 0 < p → o = o') : ∀ q, p ≤ q → q < 8 → lastN (grow0 l p) / 2 ^ plc o' q % 2 = 0 := by
  intro q h1 h2
  by_cases hp : p = 0
  · subst hp
    rw [lastN_grow]
    simp
  · have := (h.2 (by omega)).2.2 q h1 h2
    unfold grow0
    rw [if_neg hp, ← ho (by omega)]
    exact this
theorem Fit.ne_ {o : Int} {l : List UInt8} {p : Nat} (h : Fit o l p) : 0 < p → l ≠ [] := fun hp => (h.2 hp).1
theorem put1_len {o : Int} {l : List UInt8} {p b : Nat} : (put1 o l p b).length = (grow0 l p).length := by unfold put1; rw [List.length_set]
theorem byt_set_same (l : List UInt8) (i : Nat) (h : i < l.length) (x : Nat) (hx : x < 256) : byt (l.set i (UInt8.ofNat x)) i = x := by
  unfold byt
  rw [List.getD_eq_getElem?_getD, List.getElem?_set_self h]
  simp
  omega
theorem byt_set_other (l : List UInt8) (i j : Nat) (h : i ≠ j) (x : UInt8) : byt (l.set i x) j = byt l j := by
  unfold byt
  rw [List.getD_eq_getElem?_getD, List.getD_eq_getElem?_getD, List.getElem?_set_ne h]
theorem put1_last {o o' : Int} {l : List UInt8} {p b : Nat} (h : Fit o l p) (ho : 0 < p → o = o') (ho' : o' = 1 ∨ o' = 2) (hb : b < 2) : lastN (put1 o' l p b) = lastN (grow0 l p) + b * 2 ^ plc o' p := by
  have hl := grow0_len l p h.ne_
  have hs := step_all ho' h.1 hb (lastN_lt _) (h.zeros ho)
  unfold lastN
  rw [put1_len]
  unfold put1
  exact byt_set_same _ _ (by omega) _ hs.2.1
theorem fit_put1 {o o' : Int} {l : List UInt8} {p b : Nat} (h : Fit o l p) (ho : 0 < p → o = o') (ho' : o' = 1 ∨ o' = 2) (hb : b < 2) : Fit o' (put1 o' l p b) ((p + 1) % 8) := by
  refine ⟨Nat.mod_lt _ (by decide), fun hp => ⟨?_, ho', ?_⟩⟩
  · have := grow0_len l p h.ne_
    exact List.length_pos_iff.1 (by rw [put1_len]; exact this)
  · have hs := step_all ho' h.1 hb (lastN_lt _) (h.zeros ho)
    rw [put1_last h ho ho' hb]
    have h8 := h.1
    have e : (p + 1) % 8 = p + 1 := by omega
    rw [e]
    exact hs.2.2.1
theorem fit_puts {o o' : Int} {l : List UInt8} {p : Nat} {f : Nat → Nat} (h : Fit o l p) (ho : 0 < p → o = o') (ho' : o' = 1 ∨ o' = 2) (hf : ∀ k, f k < 2) : ∀ k, 0 < k → Fit o' (puts o' l p f k) ((p + k) % 8)
  | 0, h0 => absurd h0 (by decide)
  | 1, _ => by
    have h8 := h.1
    show Fit o' (put1 o' l ((p + 0) % 8) (f 0)) _
    rw [show (p + 0) % 8 = p by omega]
    exact fit_put1 h ho ho' (hf 0)
  | k + 2, _ => by
    have ih := fit_puts h ho ho' hf (k + 1) (by omega)
    have := fit_put1 ih (fun _ => rfl) ho' (hf (k + 1))
    rw [show ((p + (k + 1)) % 8 + 1) % 8 = (p + (k + 2)) % 8 by omega] at this
    exact this
theorem fit_puts0 {o o' : Int} {l : List UInt8} {p : Nat} {f : Nat → Nat} (h : Fit o l p) (ho : 0 < p → o = o') (ho' : o' = 1 ∨ o' = 2) (hf : ∀ k, f k < 2) (k : Nat) :
    Fit (if k = 0 then o else o') (puts o' l p f k) ((p + k) % 8) := by
  by_cases hk : k = 0
  · subst hk
    have h8 := h.1
    rw [if_pos rfl, show (p + 0) % 8 = p by omega]
    exact h
  · rw [if_neg hk]
    exact fit_puts h ho ho' hf k (by omega)
theorem put1_le {o : Int} {l : List UInt8} {p b : Nat} : (put1 o l p b).length ≤ l.length + 1 := by
  rw [put1_len]; unfold grow0; split <;> simp
theorem puts_le {o : Int} {l : List UInt8} {p : Nat} {f : Nat → Nat} : ∀ k, (puts o l p f k).length ≤ l.length + k
  | 0 => by simp [puts]
  | k + 1 => by
    have h1 := puts_le (o := o) (l := l) (p := p) (f := f) k
    have h2 := put1_le (o := o) (l := puts o l p f k) (p := (p + k) % 8) (b := f k)
    simp only [puts]
    omega

/-- Does the writer refuse v as a number of n bits? -/
def wbad (ord v n o : Int) : Bool := bad ord n o || decide (v < 0) || decide ((2 : Int) ^ n.toNat ≤ v)
def wrE (ord v n o : Int) : Int := if wbad ord v n o then 1 else 0
def wrL (l : List UInt8) (p : Nat) (ord v n o : Int) : List UInt8 := if wbad ord v n o then l else puts o l p (bitO o v.toNat n.toNat) n.toNat
def wrP (p : Nat) (ord v n o : Int) : Nat := if wbad ord v n o then p else (p + n.toNat) % 8
def wrO (ord v n o : Int) : Int := if wbad ord v n o then ord else if 0 < n then o else ord
theorem wr_bad {ord v n o : Int} (h : wbad ord v n o = true) (l : List UInt8) (p : Nat) : wrE ord v n o = 1 ∧ wrL l p ord v n o = l ∧ wrP p ord v n o = p ∧ wrO ord v n o = ord := by
  unfold wrE wrL wrP wrO
  rw [h]
  simp
theorem wr_ok {ord v n o : Int} (h : wbad ord v n o = false) (l : List UInt8) (p : Nat) :
    wrE ord v n o = 0 ∧ wrL l p ord v n o = puts o l p (bitO o v.toNat n.toNat) n.toNat ∧ wrP p ord v n o = (p + n.toNat) % 8 ∧ wrO ord v n o = if 0 < n then o else ord := by
  unfold wrE wrL wrP wrO
  rw [h]
  simp
theorem wbad_no {ord v n o : Int} (h : wbad ord v n o = false) : bad ord n o = false ∧ 0 ≤ v ∧ v < 2 ^ n.toNat := by
  unfold wbad at h
  simp only [Bool.or_eq_false_iff, decide_eq_false_iff_not] at h
  exact ⟨h.1.1, by omega, by omega⟩
theorem wr_fit {l : List UInt8} {p : Nat} {ord v n o : Int} (h : Fit ord l p) (ho : o = 1 ∨ o = 2) : Fit (wrO ord v n o) (wrL l p ord v n o) (wrP p ord v n o) := by
  by_cases hb : wbad ord v n o = true
  · obtain ⟨_, h1, h2, h3⟩ := wr_bad hb l p
    rw [h1, h2, h3]
    exact h
  · have hb' : wbad ord v n o = false := by simpa using hb
    obtain ⟨_, h1, h2, h3⟩ := wr_ok hb' l p
    have hn := bad_no (wbad_no hb').1
    have hor : 0 < p → ord = o := fun hp => by
      rcases (h.2 hp).2.1 with e | e <;> omega
    rw [h1, h2, h3]
    have := fit_puts0 (f := bitO o v.toNat n.toNat) h hor ho (fun k => bitO_lt _ _ _ _) n.toNat
    by_cases h0 : 0 < n
    · rw [if_pos h0]
      rw [if_neg (by omega)] at this
      exact this
    · rw [if_neg h0]
      rw [if_pos (by omega)] at this
      exact this
theorem wr_le {l : List UInt8} {p : Nat} {ord v n o : Int} : (wrL l p ord v n o).length ≤ l.length + 24 := by
  by_cases hb : wbad ord v n o = true
  · rw [(wr_bad hb l p).2.1]; omega
  · have hb' : wbad ord v n o = false := by simpa using hb
    have hn := bad_no (wbad_no hb').1
    rw [(wr_ok hb' l p).2.1]
    have := puts_le (o := o) (l := l) (p := p) (f := bitO o v.toNat n.toNat) n.toNat
    omega
end Go.Proofs.Ytbgechfmbogbpaa.Bt
