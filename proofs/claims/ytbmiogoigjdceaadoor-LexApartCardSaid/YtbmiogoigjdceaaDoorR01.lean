/-
  Lemmas and walks, joined: LexM4, LexNu.
-/
import Derived.Test.YtbmiogoigjdceaaDoorQ11
import Derived.Test.YtbmiogoigjdceaaDoorQ18
import Derived.Test.YtbmiogoigjdceaaDoorQ15
namespace Go.Proofs.YtbmiogoigjdceaaDoor.Lex
open Go.Proofs.YtbmiogoigjdceaaDoor.Oct Go.Proofs.YtbmiogoigjdceaaDoor.Fix

/-! ### Numbers -/
theorem dig_reg {c : UInt8} (h : isDig c = true) : regularS c = true := by
  have := all_bytes (fun c => !isDig c || regularS c) (by decide +kernel) c
  rw [h] at this
  simpa using this
theorem dig_plain {c : UInt8} (h : isDig c = true) : c ≠ 45 ∧ c ≠ 43 ∧ c ≠ 91 ∧ c ≠ 93 ∧ c ≠ 123 ∧ c ≠ 125 ∧ c ≠ 60 ∧ c ≠ 62 ∧ c ≠ 41 ∧ c ≠ 40 ∧ c ≠ 47 ∧ c ≠ 37 ∧ whiteS c = false := by
  have := all_bytes (fun c => !isDig c || (decide (c ≠ 45 ∧ c ≠ 43 ∧ c ≠ 91 ∧ c ≠ 93 ∧ c ≠ 123 ∧ c ≠ 125 ∧ c ≠ 60 ∧ c ≠ 62 ∧ c ≠ 41 ∧ c ≠ 40 ∧ c ≠ 47 ∧ c ≠ 37) && !whiteS c)) (by decide +kernel) c
  rw [h] at this
  simpa [and_assoc] using this
theorem run_dig (d t : List UInt8) (hd : d.all isDig = true) : runL (d ++ 47 :: t) = d := by
  unfold runL
  rw [List.takeWhile_append_of_pos (fun c hc => dig_reg (List.all_eq_true.1 hd c hc)), List.takeWhile_cons]
  have : regularS 47 = false := by decide
  rw [this]
  simp
/-- A sign or none. -/
def signL (m : Bool) : List UInt8 := if m then [45] else []
theorem run_num (m : Bool) (d t : List UInt8) (hd : d.all isDig = true) : runL (signL m ++ (d ++ 47 :: t)) = signL m ++ d := by
  cases m with
  | false => exact run_dig d t hd
  | true =>
    show runL (45 :: (d ++ 47 :: t)) = 45 :: d
    unfold runL
    rw [List.takeWhile_cons, if_pos (by decide)]
    exact congrArg _ (run_dig d t hd)
theorem body_num (m : Bool) (d : List UInt8) (hd : d.all isDig = true) : bodyL (signL m ++ d) = d ∧ (d ≠ [] → minusL (signL m ++ d) = m) := by
  cases m with
  | true => exact ⟨rfl, fun _ => rfl⟩
  | false =>
    cases d with
    | nil => exact ⟨rfl, fun h => absurd rfl h⟩
    | cons c d =>
      have h1 := dig_plain (List.all_eq_true.1 hd c (by simp))
      refine ⟨?_, fun _ => ?_⟩
      · show (if c = 45 then d else if c = 43 then d else c :: d) = c :: d
        rw [if_neg h1.1, if_neg h1.2.1]
      · show (c == 45) = false
        simpa using h1.1
/-- What is read of a line's end, a number's digits and a slash. -/
theorem next_num (m : Bool) (d t : List UInt8) (hd : d.all isDig = true) (hne : d ≠ []) :
    nextI (10 :: (signL m ++ (d ++ 47 :: t))) 0 = 1 ∧ nextR (10 :: (signL m ++ (d ++ 47 :: t))) 0 = (if 2147483647 < valL 0 d then bad 2 else ⟨0, 1, (signL m ++ d).length, if m then -(valL 0 d) else valL 0 d, []⟩) := by
  obtain ⟨c, u, hc, hr⟩ : ∃ c u, signL m ++ (d ++ 47 :: t) = c :: u ∧ (whiteS c = false ∧ c ≠ 37 ∧ c ≠ 91 ∧ c ≠ 93 ∧ c ≠ 123 ∧ c ≠ 125 ∧ c ≠ 60 ∧ c ≠ 62 ∧ c ≠ 41 ∧ c ≠ 40 ∧ c ≠ 47) := by
    cases m with
    | true => exact ⟨45, _, rfl, by decide⟩
    | false =>
      cases d with
      | nil => exact absurd rfl hne
      | cons c d =>
        have h1 := dig_plain (List.all_eq_true.1 hd c (by simp))
        exact ⟨c, _, rfl, h1.2.2.2.2.2.2.2.2.2.2.2.2, h1.2.2.2.2.2.2.2.2.2.2.2.1, h1.2.2.1, h1.2.2.2.1, h1.2.2.2.2.1, h1.2.2.2.2.2.1, h1.2.2.2.2.2.2.1, h1.2.2.2.2.2.2.2.1, h1.2.2.2.2.2.2.2.2.1, h1.2.2.2.2.2.2.2.2.2.1, h1.2.2.2.2.2.2.2.2.2.2.1⟩
  obtain ⟨w0, w1, w2, w3, w4, w5, w6, w7, w8, w9, w10⟩ := hr
  have hi : nextI (10 :: (signL m ++ (d ++ 47 :: t))) 0 = 1 := by
    unfold nextI
    rw [List.drop_zero, skipN_white _ (by decide), hc, skipN_stop _ w0 w1]
  refine ⟨hi, ?_⟩
  unfold nextR
  rw [hi, List.drop_succ_cons, List.drop_zero]
  have hrun := run_num m d t hd
  rw [hc] at hrun ⊢
  rw [tokR, if_neg w2, if_neg w3, if_neg w4, if_neg w5, if_neg w6, if_neg w7, if_neg w8, if_neg w9, if_neg w10, hrun]
  obtain ⟨b1, b2⟩ := body_num m d hd
  have hI : intL (signL m ++ d) = true := by
    unfold intL
    rw [b1, hd]
    cases d with
    | nil => exact absurd rfl hne
    | cons => rfl
  unfold wordU
  rw [if_pos hI, b1]
  split
  · rfl
  · unfold intN
    rw [b2 hne, b1]

/-! ### Strings -/
def sepL (b : Bool) : List UInt8 := if b then [32, 13, 10] else []
/-- Digits with white bytes behind each, or without. -/
def wideL (b : Bool) (h : List UInt8) : List UInt8 := h.flatMap fun c => c :: sepL b
theorem wide_snoc (b : Bool) (h : List UInt8) (c : UInt8) : wideL b (h ++ [c]) = wideL b h ++ (c :: sepL b) := by unfold wideL; rw [List.flatMap_append]; simp
theorem dig_hex {c : UInt8} (h : 0 ≤ digitS c) : c ≠ 62 := by
  intro e
  subst e
  revert h
  decide
theorem hex_wide (b : Bool) (h t : List UInt8) (hd : ∀ c ∈ h, 0 ≤ digitS c) : hexL (wideL b h ++ 62 :: t) = (0, h, (wideL b h).length + 1) := by
  induction h with
  | nil => exact hex_cons_end t
  | cons c h ih =>
    have ih := ih fun x hx => hd x (by simp [hx])
    have hc := hd c (by simp)
    have e : wideL b (c :: h) ++ 62 :: t = c :: (sepL b ++ (wideL b h ++ 62 :: t)) := by unfold wideL; simp
    have el : (wideL b (c :: h)).length = 1 + (sepL b).length + (wideL b h).length := by unfold wideL; simp; omega
    rw [e, hex_cons_dig _ (dig_hex hc) hc, el]
    have es : hexL (sepL b ++ (wideL b h ++ 62 :: t)) = (0, h, (sepL b).length + ((wideL b h).length + 1)) := by
      cases b with
      | false => show hexL (wideL false h ++ 62 :: t) = _; rw [ih]; simp [sepL]
      | true =>
        show hexL (32 :: 13 :: 10 :: (wideL true h ++ 62 :: t)) = _
        rw [hex_cons_white _ (by decide) (by decide) (by decide), hex_cons_white _ (by decide) (by decide) (by decide), hex_cons_white _ (by decide) (by decide) (by decide), ih]
        simp [sepL]; omega
    rw [es]
    simp; omega
theorem hexS_dig (l : List UInt8) : ∀ c ∈ hexS l, 0 ≤ digitS c := by
  induction l with
  | nil => intro c hc; cases hc
  | cons a l ih =>
    intro c hc
    obtain ⟨h1, h2, _⟩ := hexd_digit a
    rcases List.mem_cons.1 hc with rfl | hc
    · rw [h1]; omega
    · rcases List.mem_cons.1 hc with rfl | hc
      · rw [h2]; omega
      · exact ih c hc
theorem next_hex (b : Bool) (l t : List UInt8) (hl : l.length ≤ 32767) :
    nextI (60 :: (wideL b (hexS l) ++ 62 :: t)) 0 = 0 ∧ nextR (60 :: (wideL b (hexS l) ++ 62 :: t)) 0 = ⟨0, 3, (wideL b (hexS l)).length + 2, 0, l⟩ := by
  have hi : nextI (60 :: (wideL b (hexS l) ++ 62 :: t)) 0 = 0 := by
    unfold nextI
    rw [List.drop_zero, skipN_stop _ (by decide) (by decide)]
  refine ⟨hi, ?_⟩
  have hh : (wideL b (hexS l) ++ 62 :: t).head? ≠ some 60 := by
    cases l with
    | nil => simp [hexS, wideL]
    | cons a l =>
      have h1 := (hexS_dig (a :: l)) (hexd (a.toNat / 16)) (by simp [hexS])
      intro e
      simp [hexS, wideL] at e
      rw [e] at h1
      revert h1
      decide
  unfold nextR
  rw [hi, List.drop_zero, tokR, if_neg (by decide), if_neg (by decide), if_neg (by decide), if_neg (by decide), if_pos rfl, if_neg hh]
  unfold hexR
  rw [hex_wide b _ t (hexS_dig l), if_pos rfl]
  have he : evenL (hexS l) = hexS l := by unfold evenL; rw [hexS_length, if_neg (by omega)]
  simp only
  rw [he, unhex_hex]
  simp only
  rw [if_neg (by omega)]
  congr 1
  omega

/-- Three octal digits for each byte. -/
def oct3 (c : UInt8) : List UInt8 := [92, UInt8.ofNat (48 + c.toNat / 64), UInt8.ofNat (48 + c.toNat / 8 % 8), UInt8.ofNat (48 + c.toNat % 8)]
def octsL (l : List UInt8) : List UInt8 := l.flatMap oct3
theorem octs_snoc (l : List UInt8) (c : UInt8) : octsL (l ++ [c]) = octsL l ++ oct3 c := by unfold octsL; rw [List.flatMap_append]; simp
theorem octs_len (l : List UInt8) : (octsL l).length = 4 * l.length := by
  induction l with
  | nil => rfl
  | cons c l ih => unfold octsL at *; simp [oct3, ih]; omega
def octOk (c : UInt8) : Bool :=
  let x := UInt8.ofNat (48 + c.toNat / 64)
  let y := UInt8.ofNat (48 + c.toNat / 8 % 8)
  let z := UInt8.ofNat (48 + c.toNat % 8)
  octD x && octD y && octD z && decide (8 * (8 * (8 * 0 + (x.toNat - 48)) + (y.toNat - 48)) + (z.toNat - 48) = c.toNat) && decide (x ≠ 110 ∧ x ≠ 114 ∧ x ≠ 116 ∧ x ≠ 98 ∧ x ≠ 102 ∧ x ≠ 13 ∧ x ≠ 10)
theorem esc_oct (c : UInt8) (t : List UInt8) : escL (UInt8.ofNat (48 + c.toNat / 64) :: UInt8.ofNat (48 + c.toNat / 8 % 8) :: UInt8.ofNat (48 + c.toNat % 8) :: t) = ([c], 3) := by
  have h := all_bytes octOk (by decide +kernel) c
  unfold octOk at h
  simp only [Bool.and_eq_true, decide_eq_true_eq] at h
  obtain ⟨⟨⟨⟨h1, h2⟩, h3⟩, h4⟩, n1, n2, n3, n4, n5, n6, n7⟩ := h
  rw [escL, if_neg n1, if_neg n2, if_neg n3, if_neg n4, if_neg n5, if_neg n6, if_neg n7, if_pos h1, octN, if_pos h1, octN, if_pos h2, octN, if_pos h3, octN]
  simp only
  rw [h4]
  have : c.toNat % 256 = c.toNat := Nat.mod_eq_of_lt c.toNat_lt
  rw [this]
  simp
theorem lit_octs (l t : List UInt8) : ∀ f, l.length + 1 ≤ f → litL f 1 (octsL l ++ 41 :: t) = some (l, (octsL l).length + 1) := by
  induction l with
  | nil =>
    intro f hf
    obtain ⟨f, rfl⟩ : ∃ g, f = g + 1 := ⟨f - 1, by simp at hf; omega⟩
    exact lit_done rfl
  | cons c l ih =>
    intro f hf
    obtain ⟨f, rfl⟩ : ∃ g, f = g + 1 := ⟨f - 1, by omega⟩
    have e : octsL (c :: l) ++ 41 :: t = 92 :: (UInt8.ofNat (48 + c.toNat / 64) :: UInt8.ofNat (48 + c.toNat / 8 % 8) :: UInt8.ofNat (48 + c.toNat % 8) :: (octsL l ++ 41 :: t)) := by unfold octsL; simp [oct3]
    rw [e, lit_back rfl (by simp), esc_oct]
    simp only [List.drop_succ_cons, List.drop_zero]
    rw [ih f (by simp at hf; omega)]
    have el : (octsL (c :: l)).length = 4 + (octsL l).length := by rw [octs_len, octs_len]; simp; omega
    rw [el]
    simp [pre]; omega
theorem next_octs (l t : List UInt8) (hl : l.length ≤ 32767) :
    nextI (40 :: (octsL l ++ 41 :: t)) 0 = 0 ∧ nextR (40 :: (octsL l ++ 41 :: t)) 0 = ⟨0, 3, (octsL l).length + 2, 0, l⟩ := by
  have hi : nextI (40 :: (octsL l ++ 41 :: t)) 0 = 0 := by
    unfold nextI
    rw [List.drop_zero, skipN_stop _ (by decide) (by decide)]
  refine ⟨hi, ?_⟩
  unfold nextR
  rw [hi, List.drop_zero, tokR, if_neg (by decide), if_neg (by decide), if_neg (by decide), if_neg (by decide), if_neg (by decide), if_neg (by decide), if_neg (by decide), if_pos rfl]
  unfold litR
  rw [lit_octs l t _ (by rw [List.length_append, octs_len]; simp; omega)]
  simp only
  rw [if_neg (by omega)]
  congr 1
  omega
end Go.Proofs.YtbmiogoigjdceaaDoor.Lex
namespace Go.Proofs.YtbmiogoigjdceaaDoor
open Go.RowKit Oct Fix Lex

def emptyM (v : Value) : Nat := match v with | .string b => if b.size = 0 then 1 else 0 | _ => 0
theorem size_zero {D : ByteArray} (h : D.size = 0) : D.data.toList = [] := List.eq_nil_of_length_eq_zero (by have e : D.data.toList.length = D.size := (by simp); omega)
/-- k is still to be written ahead of D: together they are N. -/
def NumAt (N k : Nat) (D : ByteArray) : Prop := valL (k : Int) D.data.toList = (N : Int) ∧ D.data.toList.all isDig = true ∧ k ≤ 8589934588 / 10 ^ D.size ∧ D.size ≤ 10
theorem NumAt.zero (N : Nat) (h : N ≤ 8589934588) : NumAt N N ⟨#[]⟩ := ⟨rfl, rfl, by show N ≤ 8589934588 / 10 ^ 0; omega, Nat.zero_le _⟩
theorem one_cons (c : UInt8) (D : ByteArray) : ((⟨#[c]⟩ : ByteArray) ++ D).data.toList = c :: D.data.toList := by
  rw [ByteArray.data_append, Array.toList_append]; rfl
theorem one_size (c : UInt8) (D : ByteArray) : ((⟨#[c]⟩ : ByteArray) ++ D).size = D.size + 1 := by
  have h := congrArg List.length (one_cons c D)
  rw [size_len, List.length_cons, size_len] at h
  exact h
theorem NumAt.more {N k : Nat} {D : ByteArray} (h : NumAt N k D) (hk : 0 < k ∨ D.size = 0) : NumAt N (k / 10) ((⟨#[UInt8.ofNat (48 + k % 10)]⟩ : ByteArray) ++ D) := by
  obtain ⟨h1, h2, h3, h4⟩ := h
  have hc : (UInt8.ofNat (48 + k % 10)).toNat = 48 + k % 10 := by rw [UInt8.toNat_ofNat']; omega
  refine ⟨?_, ?_, ?_, ?_⟩
  · rw [one_cons]
    show valL (10 * ((k / 10 : Nat) : Int) + (((UInt8.ofNat (48 + k % 10)).toNat : Int) - 48)) D.data.toList = _
    rw [hc, ← h1]
    congr 1
    omega
  · rw [one_cons, List.all_cons, h2]
    have : isDig (UInt8.ofNat (48 + k % 10)) = true := by unfold isDig; rw [hc]; simp; omega
    rw [this]; rfl
  · rw [one_size, Nat.pow_succ, ← Nat.div_div_eq_div_mul]
    exact Nat.div_le_div_right h3
  · rw [one_size]
    rcases Nat.lt_or_ge D.size 10 with h5 | h5
    · omega
    · exfalso
      have h6 : D.size = 10 := by omega
      rw [h6] at h3
      have : 8589934588 / 10 ^ 10 = 0 := by decide
      omega
theorem valL_nought (l : List UInt8) : valL 0 (48 :: l) = valL 0 l := rfl

/-- E is the digits of N, noughts ahead. -/
def NumsAt (N : Nat) (E : ByteArray) : Prop := valL 0 E.data.toList = (N : Int) ∧ E.data.toList.all isDig = true ∧ 0 < E.size
theorem NumsAt.more {N : Nat} {E : ByteArray} (h : NumsAt N E) : NumsAt N ((⟨#[48]⟩ : ByteArray) ++ E) := by
  obtain ⟨h1, h2, h3⟩ := h
  refine ⟨?_, ?_, by rw [one_size]; omega⟩
  · rw [one_cons, valL_nought]; exact h1
  · rw [one_cons, List.all_cons, h2]; rfl

theorem nxI_zero (l : List UInt8) : nxI l 0 = nextI l 0 := rfl
theorem nxR_zero (l : List UInt8) : nxR l 0 = nextR l 0 := by unfold nxR; rw [if_neg (by omega)]; rfl
theorem num_list (g E : ByteArray) (m : Bool) (hg : g.data.toList = signL m) : ((⟨#[10]⟩ : ByteArray) ++ g ++ E ++ ⟨#[47]⟩).data.toList = 10 :: (signL m ++ (E.data.toList ++ 47 :: [])) := by
  simp only [ByteArray.data_append, Array.toList_append, hg]
  simp
theorem num_next (g E : ByteArray) (m : Bool) (N : Nat) (hg : g.data.toList = signL m) (h : NumsAt N E) :
    nxI ((⟨#[10]⟩ : ByteArray) ++ g ++ E ++ ⟨#[47]⟩).data.toList 0 = 1 ∧ nxR ((⟨#[10]⟩ : ByteArray) ++ g ++ E ++ ⟨#[47]⟩).data.toList 0 = (if 2147483647 < (N : Int) then bad 2 else ⟨0, 1, g.size + E.size, if m then -(N : Int) else N, []⟩) := by
  obtain ⟨h1, h2, h3⟩ := h
  have hne : E.data.toList ≠ [] := fun e => by have := congrArg List.length e; rw [size_len, List.length_nil] at this; omega
  obtain ⟨n1, n2⟩ := next_num m E.data.toList [] h2 hne
  have hl : (signL m ++ E.data.toList).length = g.size + E.size := by rw [List.length_append, ← hg, size_len, size_len]
  rw [nxI_zero, nxR_zero, num_list g E m hg, n1, n2, h1, hl]
  exact ⟨rfl, rfl⟩
theorem num_size (g E : ByteArray) (h : g.size ≤ 1) (h2 : E.size ≤ 210) : ((⟨#[10]⟩ : ByteArray) ++ g ++ E ++ ⟨#[47]⟩).size ≤ 100000 := by
  simp only [ByteArray.size_append]
  show 1 + g.size + E.size + 1 ≤ _
  omega
theorem num_big (g E : ByteArray) (m : Bool) (N : Nat) (W : World) (hW : MaxLenAt W) (hg : g.data.toList = signL m) (h : NumsAt N E) (h1 : g.size ≤ 1) (h2 : E.size ≤ 210) (hb : 2147483647 < (N : Int)) :
    Calls Tryd.prog 9 #[.string ((⟨#[10]⟩ : ByteArray) ++ g ++ E ++ ⟨#[47]⟩), .int .i64 0] W fun e w' => e = .returned (.tuple #[.agg #[.int .i64 0, .int .i64 0, .int .i64 0, .int .i64 0, .string ⟨#[]⟩], .int .i64 2]) ∧ Below W.heap.size W w' := by
  have hc := lexNext_any ((⟨#[10]⟩ : ByteArray) ++ g ++ E ++ ⟨#[47]⟩) 0 W (num_size g E h1 h2) hW
  obtain ⟨n1, n2⟩ := num_next g E m N hg h
  rw [if_pos hb] at n2
  rw [n1, n2] at hc
  exact hc
theorem num_small (g E : ByteArray) (m : Bool) (N : Nat) (W : World) (hW : MaxLenAt W) (hg : g.data.toList = signL m) (h : NumsAt N E) (h1 : g.size ≤ 1) (h2 : E.size ≤ 210) (hb : ¬ 2147483647 < (N : Int)) :
    Calls Tryd.prog 9 #[.string ((⟨#[10]⟩ : ByteArray) ++ g ++ E ++ ⟨#[47]⟩), .int .i64 0] W fun e w' => e = .returned (.tuple #[.agg #[.int .i64 1, .int .i64 1, .int .i64 (1 + (g.size : Int) + (E.size : Int)), .int .i64 (if m then -(N : Int) else N), .string ⟨#[]⟩], .int .i64 0]) ∧ Below W.heap.size W w' := by
  have hc := lexNext_any ((⟨#[10]⟩ : ByteArray) ++ g ++ E ++ ⟨#[47]⟩) 0 W (num_size g E h1 h2) hW
  obtain ⟨n1, n2⟩ := num_next g E m N hg h
  rw [if_neg hb] at n2
  rw [n1, n2] at hc
  refine hc.mono fun e w' ⟨e1, e2⟩ => ⟨e1.trans ?_, e2⟩
  have : tT 1 (⟨0, 1, g.size + E.size, if m then -(N : Int) else N, []⟩ : TR) = 1 + (g.size : Int) + (E.size : Int) := by
    unfold tT
    rw [if_pos rfl]
    push_cast
    omega
  rw [this]
  rfl

set_option maxRecDepth 100000 in
set_option maxHeartbeats 8000000 in
theorem numbers_in (n u : Int) (N : Nat) (w : World) (hm : MaxLenAt w) (h1 : 0 ≤ n) (h2 : n ≤ 8589934588) (u0 : 0 ≤ u) (u1 : u ≤ 255) (hN : n = (N : Int)) :
    Calls Tryd.prog 6 #[.int .i64 n, .int .u8 u] w fun e w' => e = .returned (.bool true) ∧ Below w.heap.size w w' := by
  subst hN
  have a1 : ¬ (N : Int) < -8589934588 := by omega
  have a2 : ¬ 8589934588 < (N : Int) := by omega
  have a3 : ¬ (N : Int) < 0 := by omega
  have HM := Lib.hid hm
  have hN2 : N ≤ 8589934588 := by omega
  clear hm
  go_enter Tryd.func6, Tryd.ntmps6
  go_wp2_with fail
  go_loopw [6, 7] (fun kv dv wr => ∃ (k : Nat) (D : ByteArray), kv = .int .i64 (k : Int) ∧ dv = .string D ∧ NumAt N k D ∧ Below w.heap.size w wr) (fun kv dv _ => (intOf kv).toNat + emptyM dv)
  case atStart => exact ⟨N, ⟨#[]⟩, rfl, rfl, NumAt.zero N hN2, Below.refl _ _⟩
  case round =>
    obtain ⟨k, D, rfl, rfl, hn, hb⟩ := hrel
    have HNn := Lib.hid hn
    have hDs : D.size ≤ 10 := hn.2.2.2
    have hk2 : k ≤ 8589934588 := Nat.le_trans hn.2.2.1 (Nat.div_le_self _ _)
    have hbs := hb.size
    have HB := Lib.hid hb
    clear hn hb
    by_cases hk : 0 < k ∨ D.size = 0
    · have hN3 := HNn.out.more hk
      obtain ⟨c, hc⟩ : ∃ c, UInt8.ofNat (48 + k % 10) = c := ⟨_, rfl⟩
      rw [hc] at hN3
      have hcn : (c.toNat : Int) = 48 + (k : Int) % 10 := by rw [← hc, UInt8.toNat_ofNat']; omega
      have hconv := conv_one wr (48 + (k : Int) % 10) c hcn
      have N2 := Lib.hid hN3
      have q1 : 0 ≤ (k : Int) % 10 := by omega
      have q2 : (k : Int) % 10 < 10 := by omega
      have hM : Hid (emptyM (.string ((⟨#[c]⟩ : ByteArray) ++ D)) = 0) := Lib.hid (by unfold emptyM; simp only; rw [one_size, if_neg (by omega)])
      rcases Nat.eq_zero_or_pos k with hk0 | hk0
      · have hz : D.size = 0 := by omega
        have he : D.toList = [] := by rw [Lib.toList_data]; exact size_zero hz
        have hM2 : Hid (emptyM (.string D) = 1) := Lib.hid (by unfold emptyM; simp only; rw [if_pos hz])
        subst hk0
        have hconv0 := conv_one wr 48 c (by simpa using hcn)
        clear hc hcn hconv hz hN3
        go_wp2_with fail
        go_roundw
        case rel => exact ⟨0, (⟨#[c]⟩ : ByteArray) ++ D, rfl, rfl, N2.out, HB.out.alloc hbs _⟩
        case measure => rw [hM.out, hM2.out]; simp [intOf]
      · have hk0' : 0 < (k : Int) := by omega
        clear hc hcn hN3
        go_wp2_with fail
        go_roundw
        case rel => exact ⟨k / 10, (⟨#[c]⟩ : ByteArray) ++ D, by go_num, rfl, N2.out, HB.out.alloc hbs _⟩
        case measure => rw [hM.out]; simp [intOf]; omega
    · have hk0 : k = 0 := by omega
      subst hk0
      have hDne : 0 < D.size := by omega
      have hne : D.toList.isEmpty = false := str_ne hDne
      have hz0 : ¬ (0 : Int) < ((0 : Nat) : Int) := by omega
      clear hk
      obtain ⟨hv, hdg, _, _⟩ := HNn.out
      have HV := Lib.hid hv
      have HDG := Lib.hid hdg
      have HDN := Lib.hid hDne
      clear hv hdg hDne
      have hr0 : 0 ≤ u % 200 := by omega
      have hr1 : u % 200 < 200 := by omega
      go_wp2_with fail
      go_loop [7, 8] (fun dv iv => ∃ (j : Nat) (E : ByteArray), j ≤ 200 ∧ iv = .int .i64 (j : Int) ∧ dv = .string E ∧ NumsAt N E ∧ E.size ≤ 10 + j) (fun _ iv => 200 - (intOf iv).toNat)
      case atStart => exact ⟨0, D, by omega, rfl, rfl, ⟨HV.out, HDG.out, HDN.out⟩, by omega⟩
      case round =>
        obtain ⟨j, E, hj, rfl, rfl, he, hes⟩ := hrel
        have HE := Lib.hid he
        clear he
        by_cases hlt : (j : Int) < u % 200
        · have N3 := Lib.hid (HE.out.more)
          have hs3 := one_size 48 E
          have HS3 := Lib.hid hs3
          clear hs3
          go_wp2_with fail
          go_round
          case rel => exact ⟨j + 1, (⟨#[48]⟩ : ByteArray) ++ E, by omega, by go_num, rfl, N3.out, by rw [HS3.out]; omega⟩
          case measure => simp [intOf]; omega
        · have hbs2 := HB.out.size
          have HMr : Hid (MaxLenAt wr) := Lib.hid (HM.out.upto HB.out (Nat.le_refl _))
          by_cases hbig : 2147483647 < (N : Int)
          · have HC := Lib.hid (num_big ⟨#[]⟩ E false N wr HMr.out rfl HE.out (by decide) (by omega) hbig)
            go_wp2_with fail
            refine HC.out.mono ?_
            rintro e w2 ⟨rfl, hb2⟩
            have HM2 : Hid (MaxLenAt w2) := Lib.hid (HMr.out.upto hb2 (Nat.le_refl _))
            have HB2 := Lib.hid (HB.out.trans (hb2.mono hbs2))
            clear hb2
            go_wp2_with fail
            refine (lives_ok _ (HM2.out.alloc _)).mono ?_
            rintro e w3 ⟨rfl, hb3⟩
            go_wp2_with fail
            go_ret
            exact ⟨rfl, (HB2.out.alloc HB2.out.size _).trans (hb3.mono (Nat.le_trans HB2.out.size (by simp)))⟩
          · have HC := Lib.hid (num_small ⟨#[]⟩ E false N wr HMr.out rfl HE.out (by decide) (by omega) hbig)
            go_wp2_with fail
            refine HC.out.mono ?_
            rintro e w2 ⟨rfl, hb2⟩
            have HM2 : Hid (MaxLenAt w2) := Lib.hid (HMr.out.upto hb2 (Nat.le_refl _))
            have HB2 := Lib.hid (HB.out.trans (hb2.mono hbs2))
            clear hb2
            go_wp2_with fail
            refine (lives_ok _ (HM2.out.alloc _)).mono ?_
            rintro e w3 ⟨rfl, hb3⟩
            go_wp2_with fail
            go_ret
            exact ⟨rfl, (HB2.out.alloc HB2.out.size _).trans (hb3.mono (Nat.le_trans HB2.out.size (by simp)))⟩
set_option maxRecDepth 100000 in
set_option maxHeartbeats 8000000 in
theorem numbers_neg (n u : Int) (N : Nat) (w : World) (hm : MaxLenAt w) (h1 : 1 ≤ N) (h2 : N ≤ 8589934588) (u0 : 0 ≤ u) (u1 : u ≤ 255) (hN : n = -(N : Int)) :
    Calls Tryd.prog 6 #[.int .i64 n, .int .u8 u] w fun e w' => e = .returned (.bool true) ∧ Below w.heap.size w w' := by
  subst hN
  have a1 : ¬ -(N : Int) < -8589934588 := by omega
  have a2 : ¬ 8589934588 < -(N : Int) := by omega
  have a3 : -(N : Int) < 0 := by omega
  have HM := Lib.hid hm
  have hN2 : N ≤ 8589934588 := by omega
  clear hm
  go_enter Tryd.func6, Tryd.ntmps6
  go_wp2_with fail
  go_loopw [6, 7] (fun kv dv wr => ∃ (k : Nat) (D : ByteArray), kv = .int .i64 (k : Int) ∧ dv = .string D ∧ NumAt N k D ∧ Below w.heap.size w wr) (fun kv dv _ => (intOf kv).toNat + emptyM dv)
  case atStart => exact ⟨N, ⟨#[]⟩, rfl, rfl, NumAt.zero N hN2, Below.refl _ _⟩
  case round =>
    obtain ⟨k, D, rfl, rfl, hn, hb⟩ := hrel
    have HNn := Lib.hid hn
    have hDs : D.size ≤ 10 := hn.2.2.2
    have hk2 : k ≤ 8589934588 := Nat.le_trans hn.2.2.1 (Nat.div_le_self _ _)
    have hbs := hb.size
    have HB := Lib.hid hb
    clear hn hb
    by_cases hk : 0 < k ∨ D.size = 0
    · have hN3 := HNn.out.more hk
      obtain ⟨c, hc⟩ : ∃ c, UInt8.ofNat (48 + k % 10) = c := ⟨_, rfl⟩
      rw [hc] at hN3
      have hcn : (c.toNat : Int) = 48 + (k : Int) % 10 := by rw [← hc, UInt8.toNat_ofNat']; omega
      have hconv := conv_one wr (48 + (k : Int) % 10) c hcn
      have N2 := Lib.hid hN3
      have q1 : 0 ≤ (k : Int) % 10 := by omega
      have q2 : (k : Int) % 10 < 10 := by omega
      have hM : Hid (emptyM (.string ((⟨#[c]⟩ : ByteArray) ++ D)) = 0) := Lib.hid (by unfold emptyM; simp only; rw [one_size, if_neg (by omega)])
      rcases Nat.eq_zero_or_pos k with hk0 | hk0
      · have hz : D.size = 0 := by omega
        have he : D.toList = [] := by rw [Lib.toList_data]; exact size_zero hz
        have hM2 : Hid (emptyM (.string D) = 1) := Lib.hid (by unfold emptyM; simp only; rw [if_pos hz])
        subst hk0
        have hconv0 := conv_one wr 48 c (by simpa using hcn)
        clear hc hcn hconv hz hN3
        go_wp2_with fail
        go_roundw
        case rel => exact ⟨0, (⟨#[c]⟩ : ByteArray) ++ D, rfl, rfl, N2.out, HB.out.alloc hbs _⟩
        case measure => rw [hM.out, hM2.out]; simp [intOf]
      · have hk0' : 0 < (k : Int) := by omega
        clear hc hcn hN3
        go_wp2_with fail
        go_roundw
        case rel => exact ⟨k / 10, (⟨#[c]⟩ : ByteArray) ++ D, by go_num, rfl, N2.out, HB.out.alloc hbs _⟩
        case measure => rw [hM.out]; simp [intOf]; omega
    · have hk0 : k = 0 := by omega
      subst hk0
      have hDne : 0 < D.size := by omega
      have hne : D.toList.isEmpty = false := str_ne hDne
      have hz0 : ¬ (0 : Int) < ((0 : Nat) : Int) := by omega
      clear hk
      obtain ⟨hv, hdg, _, _⟩ := HNn.out
      have HV := Lib.hid hv
      have HDG := Lib.hid hdg
      have HDN := Lib.hid hDne
      clear hv hdg hDne
      have hr0 : 0 ≤ u % 200 := by omega
      have hr1 : u % 200 < 200 := by omega
      go_wp2_with fail
      go_loop [7, 8] (fun dv iv => ∃ (j : Nat) (E : ByteArray), j ≤ 200 ∧ iv = .int .i64 (j : Int) ∧ dv = .string E ∧ NumsAt N E ∧ E.size ≤ 10 + j) (fun _ iv => 200 - (intOf iv).toNat)
      case atStart => exact ⟨0, D, by omega, rfl, rfl, ⟨HV.out, HDG.out, HDN.out⟩, by omega⟩
      case round =>
        obtain ⟨j, E, hj, rfl, rfl, he, hes⟩ := hrel
        have HE := Lib.hid he
        clear he
        by_cases hlt : (j : Int) < u % 200
        · have N3 := Lib.hid (HE.out.more)
          have hs3 := one_size 48 E
          have HS3 := Lib.hid hs3
          clear hs3
          go_wp2_with fail
          go_round
          case rel => exact ⟨j + 1, (⟨#[48]⟩ : ByteArray) ++ E, by omega, by go_num, rfl, N3.out, by rw [HS3.out]; omega⟩
          case measure => simp [intOf]; omega
        · have hbs2 := HB.out.size
          have HMr : Hid (MaxLenAt wr) := Lib.hid (HM.out.upto HB.out (Nat.le_refl _))
          by_cases hbig : 2147483647 < (N : Int)
          · have HC := Lib.hid (num_big ⟨#[45]⟩ E true N wr HMr.out rfl HE.out (by decide) (by omega) hbig)
            go_wp2_with fail
            refine HC.out.mono ?_
            rintro e w2 ⟨rfl, hb2⟩
            have HM2 : Hid (MaxLenAt w2) := Lib.hid (HMr.out.upto hb2 (Nat.le_refl _))
            have HB2 := Lib.hid (HB.out.trans (hb2.mono hbs2))
            clear hb2
            go_wp2_with fail
            refine (lives_ok _ (HM2.out.alloc _)).mono ?_
            rintro e w3 ⟨rfl, hb3⟩
            go_wp2_with fail
            go_ret
            exact ⟨rfl, (HB2.out.alloc HB2.out.size _).trans (hb3.mono (Nat.le_trans HB2.out.size (by simp)))⟩
          · have HC := Lib.hid (num_small ⟨#[45]⟩ E true N wr HMr.out rfl HE.out (by decide) (by omega) hbig)
            go_wp2_with fail
            refine HC.out.mono ?_
            rintro e w2 ⟨rfl, hb2⟩
            have HM2 : Hid (MaxLenAt w2) := Lib.hid (HMr.out.upto hb2 (Nat.le_refl _))
            have HB2 := Lib.hid (HB.out.trans (hb2.mono hbs2))
            clear hb2
            go_wp2_with fail
            refine (lives_ok _ (HM2.out.alloc _)).mono ?_
            rintro e w3 ⟨rfl, hb3⟩
            go_wp2_with fail
            go_ret
            exact ⟨rfl, (HB2.out.alloc HB2.out.size _).trans (hb3.mono (Nat.le_trans HB2.out.size (by simp)))⟩

theorem numbers_out (n u : Int) (w : World) (hm : MaxLenAt w) (h : n < -8589934588 ∨ 8589934588 < n) :
    Calls Tryd.prog 6 #[.int .i64 n, .int .u8 u] w fun e w' => e = .returned (.bool true) ∧ Below w.heap.size w w' := by
  have HM := Lib.hid hm
  clear hm
  by_cases h1 : n < -8589934588
  · clear h
    go_enter Tryd.func6, Tryd.ntmps6
    go_wp2_with fail
    refine (lives_ok _ HM.out).mono ?_
    rintro e w3 ⟨rfl, hb3⟩
    go_wp2_with fail
    go_ret
    exact ⟨rfl, hb3⟩
  · have h2 : 8589934588 < n := by omega
    clear h
    go_enter Tryd.func6, Tryd.ntmps6
    go_wp2_with fail
    refine (lives_ok _ HM.out).mono ?_
    rintro e w3 ⟨rfl, hb3⟩
    go_wp2_with fail
    go_ret
    exact ⟨rfl, hb3⟩

theorem lexNumbersWalk (n u : Int) (w : World) (hm : MaxLenAt w) (wu : (Lit.int .u8 u).wf = true) :
    Calls Tryd.prog 6 #[.int .i64 n, .int .u8 u] w fun e w' => e = .returned (.bool true) ∧ Below w.heap.size w w' := by
  have hu : 0 ≤ u ∧ u ≤ 255 := by
    simp [Lit.wf, IntKind.min, IntKind.max, IntKind.signed, IntKind.bits] at wu
    omega
  by_cases h : n < -8589934588 ∨ 8589934588 < n
  · exact numbers_out n u w hm h
  · by_cases h0 : n < 0
    · exact numbers_neg n u (-n).toNat w hm (by omega) (by omega) hu.1 hu.2 (by omega)
    · exact numbers_in n u n.toNat w hm (by omega) (by omega) hu.1 hu.2 (by omega)
end Go.Proofs.YtbmiogoigjdceaaDoor
