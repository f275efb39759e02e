/-
  Lemmas and walks, joined: StrAt, PlnC, PlnS, PlnE, HdTx, HdVe.
-/
import Derived.Test.YtdpbpdikgcepbaaGreatDoorHz07
import Derived.Lib.AppendStr
import Derived.Test.YtdpbpdikgcepbaaGreatDoorHz13
import Derived.Test.YtdpbpdikgcepbaaGreatDoorHz16
import Derived.Test.YtdpbpdikgcepbaaGreatDoorHz04
import Derived.IntWalk
import Derived.BigQuiet
namespace Go.Proofs.YtdpbpdikgcepbaaGreatDoor
open Go.RowKit Go.Lib

section
variable {P : Program} (w : World)
theorem run_append_string_at (base : Nat) (t u ty e : TypeId) (i : TypeInfo) (ht : P.underlying t = some (.slice e)) (hu : P.underlying u = some .string) (hi : P.info? e = some i) (hz : i.zero = some (.int .u8 0))
    (hsize : i.size = 1) (hby : i.bytes = 1) (v : Value) (n : Nat) (xs : List Value) (hown : w.ownsRow base e 1 v n xs) (s : ByteArray)
    (h63 : n + s.size ≤ maxLen) (hbytes : n + s.size ≤ 140737488355328) (hbase : base ≤ w.heap.size) :
    ∃ v' w', (Builtin.append_ #[t, u] ty #[v, .string s]).run P w = .ok v' w' ∧ w'.ownsRow base e 1 v' (n + s.size) (xs ++ strCells s) ∧ w.grownBy w' v.ownBlock ∧ (v'.ownBlock = v.ownBlock ∨ v'.ownBlock = some w.heap.size) := by
  obtain ⟨v', w', hrun, h1, h2, h3⟩ := run_append_own_string (P := P) w base t u ty e i ht hu hi hz hsize hby v n xs hown s h63 hbytes hbase
  refine ⟨v', w', hrun, h1, h2, ?_⟩
  have hsmall : n + s.size ≤ 9223372036854775807 := by simp only [maxLen] at h63; omega
  have hxl : xs.length = n := by simpa using hown.1
  have known : ∀ {x : Value} {y : World}, (Builtin.append_ #[t, u] ty #[v, .string s]).run P w = .ok x y → v' = x := fun h => by
    have e := hrun.symm.trans h
    injection e
  rcases hown.2 with ⟨rfl, rfl⟩ | ⟨g, cap, cur, rfl, hbg, hg, hnc, hcm, hcs, htake⟩
  · by_cases hm : s.size = 0
    · exact Or.inl (by rw [h3.2 ⟨rfl, hm⟩])
    · rw [known (run_append_nil_string (P := P) w t u ty e i (.int .u8 0) ht hu hi hz s (by omega) (by omega) (by rw [hby]; omega))]
      exact Or.inr rfl
  · by_cases hroom : n + s.size ≤ cap
    · have hcs' : cur.size = cap := by simpa using hcs
      rw [known (run_append_room_string (P := P) w t u ty e i ht hu hi hsize g n cap cur hg s hroom (by omega))]
      exact Or.inl rfl
    · have holds : ∀ j u, xs[j]? = some u → w.cell? ((⟨g, 0, none⟩ : Addr).add j) = some u := hown.cells (g := g) rfl
      rw [known (run_append_grow_string (P := P) w t u ty e i (.int .u8 0) ht hu hi hz ⟨g, 0, none⟩ n cap xs (by rw [hsize]; simpa using hxl) holds s (by omega) (by omega) (by rw [hby]; exact growslice_fits (by omega) (by omega)))]
      exact Or.inr rfl

theorem wpList_append_string_at {ops : Array Oper} {rest : List Oper} {o : Oper} {a : Act} {Q : Exit → Act → World → Prop} (hgd : o.guard = none) (sl x : Operand) (t u : TypeId)
    (ho : o.op = .call { callee := .builtin .append, args := #[sl, x], argTypes := #[t, u] })
    (base : Nat) (e : TypeId) (i : TypeInfo) (ht : P.underlying t = some (.slice e)) (hu : P.underlying u = some .string) (hi : P.info? e = some i) (hz : i.zero = some (.int .u8 0))
    (hsize : i.size = 1) (hby : i.bytes = 1)
    (v : Value) (n : Nat) (xs : List Value) (hs : a.eval sl = v) (hown : w.ownsRow base e 1 v n xs) (s : ByteArray) (hx : a.eval x = .string s)
    (h63 : n + s.size ≤ maxLen) (hbytes : n + s.size ≤ 140737488355328) (hbase : base ≤ w.heap.size)
    (h : ∀ v' w', w'.ownsRow base e 1 v' (n + s.size) (xs ++ strCells s) → w.grownBy w' v.ownBlock → (v'.ownBlock = v.ownBlock ∨ v'.ownBlock = some w.heap.size) → wpList P ops Q rest (a.put o.dst v') w') : wpList P ops Q (o :: rest) a w := by
  refine wpList_plain hgd fun K hK => ?_
  obtain ⟨v', w', hr, h2, h3, h4⟩ := run_append_string_at (P := P) w base t u o.type e i ht hu hi hz hsize hby v n xs hown s h63 hbytes hbase
  unfold Oper.wp execOp
  simp only [ho, resolve, invoke, builtin, Sem.run_bind, Sem.run_pure, Result.andThen_ok, List.map_toArray, List.map_cons, List.map_nil, hs, hx, hr]
  exact hK _ _ (h v' w' h2 h3 h4)
end
end Go.Proofs.YtdpbpdikgcepbaaGreatDoor
namespace Go.Proofs.YtdpbpdikgcepbaaGreatDoor
open Go.RowKit Oct Fix Lex

theorem str_cellsC (s : ByteArray) : Lib.strCells s = cellsOf s.data.toList := rfl
theorem conv_oneC (w : World) (c : UInt8) : (convert 60 9 (.slice (some ⟨w.heap.size, 0, none⟩) 1 1)).run Tryz.prog (w.alloc (.cells #[.int .u8 (c.toNat : Int)] 5)) = .ok (.string ⟨#[c]⟩) (w.alloc (.cells #[.int .u8 (c.toNat : Int)] 5)) :=
  run_string_of_own (base := 0) (l := [c]) (World.ownsRow_lit w #[.int .u8 (c.toNat : Int)] 1 (Nat.zero_le _) (by unfold maxLen; omega) rfl) rfl
def nmB (c : UInt8) : Bool := decide (c.toNat < 33) || decide (126 < c.toNat) || c == 35 || delimS c
theorem nmB_yes {c : UInt8} (h : nmB c = true) : nameC c = 35 :: hexS [c] := by
  unfold nameC
  rw [if_pos]
  unfold nmB at h
  simp only [Bool.or_eq_true, decide_eq_true_eq, beq_iff_eq] at h
  rcases h with ((h | h) | h) | h
  · exact .inl h
  · exact .inr (.inl h)
  · exact .inr (.inr (.inl h))
  · exact .inr (.inr (.inr h))
theorem nmB_no {c : UInt8} (h : nmB c = false) : nameC c = [c] ∧ 33 ≤ (c.toNat : Int) ∧ (c.toNat : Int) ≤ 126 ∧ ((c.toNat : Int) == 35) = false ∧ delimS c = false := by
  unfold nmB at h
  simp only [Bool.or_eq_false_iff, decide_eq_false_iff_not, beq_eq_false_iff_ne] at h
  obtain ⟨⟨⟨h1, h2⟩, h3⟩, h4⟩ := h
  refine ⟨?_, by omega, by omega, ?_, h4⟩
  · unfold nameC
    rw [if_neg]
    rintro (h | h | h | h)
    · exact h1 h
    · exact h2 h
    · exact h3 h
    · rw [h4] at h; cases h
  · rw [Bool.eq_false_iff]
    exact fun e => h3 (byte_is (by decide) e)
/-- The ways in which a byte is not taken as it is, in the walk's words. -/
theorem nmB_ways {c : UInt8} (h : nmB c = true) : (c.toNat : Int) < 33 ∨ (33 ≤ (c.toNat : Int) ∧ 126 < (c.toNat : Int)) ∨ (33 ≤ (c.toNat : Int) ∧ (c.toNat : Int) ≤ 126 ∧ ((c.toNat : Int) == 35) = true) ∨ (33 ≤ (c.toNat : Int) ∧ (c.toNat : Int) ≤ 126 ∧ ((c.toNat : Int) == 35) = false ∧ delimS c = true) := by
  unfold nmB at h
  simp only [Bool.or_eq_true, decide_eq_true_eq, beq_iff_eq] at h
  rcases (by omega : (c.toNat : Int) < 33 ∨ (33 ≤ (c.toNat : Int) ∧ 126 < (c.toNat : Int)) ∨ (33 ≤ (c.toNat : Int) ∧ (c.toNat : Int) ≤ 126)) with h1 | h1 | h1
  · exact .inl h1
  · exact .inr (.inl h1)
  · by_cases h2 : ((c.toNat : Int) == 35) = true
    · exact .inr (.inr (.inl ⟨h1.1, h1.2, h2⟩))
    · refine .inr (.inr (.inr ⟨h1.1, h1.2, Bool.eq_false_iff.2 h2, ?_⟩))
      rcases h with ((h | h) | h) | h
      · omega
      · omega
      · exact absurd (by rw [h]; rfl) h2
      · exact h
theorem delim_b (c : UInt8) (b : Bool) (w : World) (h : delimS c = b) : Calls Tryz.prog 115 #[.int .u8 (c.toNat : Int)] w fun e w' => e = .returned (.bool b) ∧ w = w' := h ▸ delim_any c w
theorem delim_rb (c : UInt8) (b : Bool) (w : World) (h : delimS c = b) : Calls Tryz.prog 121 #[.int .u8 (c.toNat : Int)] w fun e w' => e = .returned (.bool b) ∧ w = w' := h ▸ delim_r c w

section
variable (c : UInt8) (w : World) (l : List UInt8) (A : Option Addr) (C base : Nat)
end

/-! ### Name. -/
def nameX (s : ByteArray) : List UInt8 := if 127 < s.size then [] else if (0 : UInt8) ∈ s.data.toList then [] else nameL s.data.toList
def nameE (s : ByteArray) : Int := if 127 < s.size then 5 else if (0 : UInt8) ∈ s.data.toList then 3 else 0
theorem name_long {s : ByteArray} (h : 127 < s.size) : nameX s = [] ∧ nameE s = 5 := by unfold nameX nameE; rw [if_pos h, if_pos h]; exact ⟨rfl, rfl⟩
theorem name_zero {s : ByteArray} (h : ¬ 127 < s.size) (h0 : (0 : UInt8) ∈ s.data.toList) : nameX s = [] ∧ nameE s = 3 := by unfold nameX nameE; rw [if_neg h, if_neg h, if_pos h0, if_pos h0]; exact ⟨rfl, rfl⟩
theorem name_good {s : ByteArray} (h : ¬ 127 < s.size) (h0 : ¬ (0 : UInt8) ∈ s.data.toList) : nameX s = nameL s.data.toList ∧ nameE s = 0 := by unfold nameX nameE; rw [if_neg h, if_neg h, if_neg h0, if_neg h0]; exact ⟨rfl, rfl⟩
theorem index_mem (l : List UInt8) (c : UInt8) : 0 ≤ Lib.indexByte l c ↔ c ∈ l := by
  induction l with
  | nil => simp [Lib.indexByte]
  | cons a l ih =>
    have hge := Lib.indexByte_ge l c
    rw [Lib.indexByte]
    by_cases h : a = c
    · subst h; simp
    · have h' : (a == c) = false := by simpa using h
      rw [h', List.mem_cons, ← ih]
      by_cases h2 : Lib.indexByte l c = -1
      · have h3 : (Lib.indexByte l c == -1) = true := by simpa using h2
        simp [h2, Ne.symm h]
      · have h3 : (Lib.indexByte l c == -1) = false := by simpa using h2
        simp [h3, Ne.symm h]
        omega
theorem has_zero (s : ByteArray) (b : Bool) (w : World) (h : decide (0 ≤ Lib.indexByte s.data.toList 0) = b) :
    Calls Tryz.prog 69 #[.string s, .string ⟨#[0]⟩] w fun e w' => e = .returned (.bool b) ∧ w = w' :=
  (Tryz.strings_Contains_one s 0 w).mono fun _ _ ⟨h1, h2⟩ => ⟨by rw [h1, h], h2.symm⟩
theorem nameC_le (c : UInt8) : (nameC c).length ≤ 4 := by have := nameC_len c; omega
/-! ### The document's. -/
theorem take_snoc (s : ByteArray) (k : Nat) (h : k < s.size) : s.data.toList.take (k + 1) = s.data.toList.take k ++ [s[k]] := by
  rw [List.take_succ_eq_append_getElem (by simpa using h)]; rfl
theorem cut_byte (s : ByteArray) (k : Nat) (h : k < s.size) : s.extract k (k + 1) = ⟨#[s[k]]⟩ := by
  apply bytes_eq
  rw [ByteArray.data_extract, Array.toList_extract, List.extract_eq_take_drop, drop_cons s k h, show k + 1 - k = 1 from by omega]
  rfl
end Go.Proofs.YtdpbpdikgcepbaaGreatDoor
namespace Go.Proofs.YtdpbpdikgcepbaaGreatDoor
open Go.RowKit Oct Fix Lex

theorem wrap8 (n : Int) (h0 : 0 ≤ n) (h1 : n < 256) : IntKind.u8.wrap n = n := by rw [IntKind.wrap_u8]; omega
end Go.Proofs.YtdpbpdikgcepbaaGreatDoor
namespace Go.Proofs.YtdpbpdikgcepbaaGreatDoor
open Go.RowKit Oct Fix Lex

theorem dec_small (n : Nat) (h : n < 10) : Lib.decDigits n = [UInt8.ofNat (48 + n)] := by rw [Lib.decDigits, dif_pos h]
theorem dgs_cut (d : Nat) (h : d < 10) : (⟨#[48, 49, 50, 51, 52, 53, 54, 55, 56, 57]⟩ : ByteArray).extract d (d + 1) = ⟨#[UInt8.ofNat (48 + d)]⟩ := by
  rcases (by omega : d = 0 ∨ d = 1 ∨ d = 2 ∨ d = 3 ∨ d = 4 ∨ d = 5 ∨ d = 6 ∨ d = 7 ∨ d = 8 ∨ d = 9) with rfl | rfl | rfl | rfl | rfl | rfl | rfl | rfl | rfl | rfl <;> rfl
theorem dec_bound (n : Nat) (h : n ≤ 9223372036854775807) : (Lib.decDigits n).length ≤ 20 := by
  rw [Lib.decDigits_length]
  exact Lib.nDigits_le20 _ (by omega)

set_option maxHeartbeats 1600000 in
theorem digits4_any (n : Nat) : ∀ (w : World), n ≤ 9223372036854775807 →
    Calls Tryz.prog 47 #[.int .i64 (n : Int)] w fun e w' => e = .returned (.string (bOf (Lib.decDigits n))) ∧ w = w' := by
  induction n using Nat.strongRecOn with
  | _ n ih =>
    intro w hn
    obtain ⟨d, hd⟩ : ∃ d, n % 10 = d := ⟨_, rfl⟩
    obtain ⟨q, hq⟩ : ∃ q, n / 10 = q := ⟨_, rfl⟩
    have hd10 : d < 10 := by omega
    have hm : (n : Int) % 10 = (d : Int) := by omega
    have hq' : (n : Int) / 10 = (q : Int) := by omega
    have hx := dgs_cut d hd10
    obtain ⟨x, hx0⟩ : ∃ x, UInt8.ofNat (48 + d) = x := ⟨_, rfl⟩
    rw [hx0] at hx
    by_cases h : n < 10
    · have e : Lib.decDigits n = [x] := by rw [dec_small n h, ← hx0, ← hd, Nat.mod_eq_of_lt h]
      rw [e]
      have h' : (n : Int) < 10 := by omega
      clear e ih hd hq hx0
      go_enter Tryz.func47, Tryz.ntmps47
      go_wp2_with fail
      go_ret
      exact ⟨rfl, rfl⟩
    · have e : Lib.decDigits n = Lib.decDigits q ++ [x] := by rw [dec_more n (by omega), hq, hd, hx0]
      rw [e]
      have h' : ¬ (n : Int) < 10 := by omega
      have IH := Lib.hid (ih q (by omega))
      have hqs : (bOf (Lib.decDigits q)).size ≤ 20 := dec_bound q (by omega)
      obtain ⟨Q, hQ⟩ : ∃ Q, bOf (Lib.decDigits q) = Q := ⟨_, rfl⟩
      rw [hQ] at hqs IH
      have hcat : Q ++ ⟨#[x]⟩ = bOf (Lib.decDigits q ++ [x]) := by rw [← hQ]; exact bytes_eq (by simp [bOf])
      have HC := Lib.hid hcat
      have hq9 : q ≤ 9223372036854775807 := by omega
      clear e ih hd hq hQ hcat hx0
      go_enter Tryz.func47, Tryz.ntmps47
      go_wp2_with fail
      refine (IH.out _ hq9).mono ?_
      rintro e w' ⟨rfl, rfl⟩
      go_wp2_with fail
      go_ret
      exact ⟨by rw [HC.out]; rfl, rfl⟩

set_option maxHeartbeats 1600000 in
theorem refInt_any (n : Int) (w : World) :
    Calls Tryz.prog 29 #[.int .i64 n] w fun e w' => e = .returned (.tuple #[.string (bOf (pIntX n)), .int .i64 (pIntE n)]) ∧ Below w.heap.size w w' := by
  rcases (by omega : n < -2147483647 ∨ 2147483647 < n ∨ (-2147483647 ≤ n ∧ n < 0) ∨ (0 ≤ n ∧ n ≤ 2147483647)) with h | h | ⟨h1, h2⟩ | ⟨h1, h2⟩
  · obtain ⟨e1, e2⟩ := pInt_out (n := n) (.inl h)
    rw [e1, e2]
    clear e1 e2
    go_enter Tryz.func29, Tryz.ntmps29
    go_wp2_with fail
    go_ret2
    exact ⟨rfl, Below.refl _ _⟩
  · obtain ⟨e1, e2⟩ := pInt_out (n := n) (.inr h)
    rw [e1, e2]
    clear e1 e2
    have h' : ¬ n < -2147483647 := by omega
    go_enter Tryz.func29, Tryz.ntmps29
    go_wp2_with fail
    go_ret2
    exact ⟨rfl, Below.refl _ _⟩
  · obtain ⟨e1, e2⟩ := pInt_in (n := n) (by omega)
    rw [e1, e2]
    clear e1 e2
    have h3 : ¬ n < -2147483647 := by omega
    have h4 : ¬ 2147483647 < n := by omega
    obtain ⟨m, hm⟩ : ∃ m : Nat, -n = (m : Int) := ⟨n.natAbs, by omega⟩
    have HD := Lib.hid (fun W : World => digits4_any m W (by omega))
    have hsz : (bOf (Lib.decDigits m)).size ≤ 20 := dec_bound m (by omega)
    obtain ⟨Q, hQ⟩ : ∃ Q, bOf (Lib.decDigits m) = Q := ⟨_, rfl⟩
    rw [hQ] at hsz
    simp only [hQ] at HD
    have hcat : (⟨#[45]⟩ ++ Q : ByteArray).data.toList = Lib.itoa n := by
      rw [itoa_sign, decide_eq_true h2, show n.natAbs = m by omega, ← hQ]
      simp [bOf, signL]
    have HC := Lib.hid hcat
    clear hQ hcat
    go_enter Tryz.func29, Tryz.ntmps29
    go_wp2_with fail
    refine (HD.out _).mono ?_
    rintro e w1 ⟨rfl, rfl⟩
    clear hm
    go_wp2_with fail
    go_ret2
    exact ⟨ret_sn HC.out rfl, Below.refl _ _⟩
  · obtain ⟨e1, e2⟩ := pInt_in (n := n) (by omega)
    rw [e1, e2]
    clear e1 e2
    obtain ⟨m, rfl⟩ : ∃ m : Nat, n = (m : Int) := ⟨n.toNat, by omega⟩
    have h3 : ¬ (m : Int) < -2147483647 := by omega
    have h4 : ¬ 2147483647 < (m : Int) := by omega
    have h5 : ¬ (m : Int) < 0 := by omega
    have HI : Hid (Lib.decDigits m = Lib.itoa m) := Lib.hid (by rw [itoa_sign, decide_eq_false h5]; simp [signL])
    go_enter Tryz.func29, Tryz.ntmps29
    go_wp2_with fail
    refine (digits4_any m _ (by omega)).mono ?_
    rintro e w1 ⟨rfl, rfl⟩
    go_wp2_with fail
    go_ret2
    exact ⟨by rw [HI.out]; rfl, Below.refl _ _⟩

/-! ### Pad. -/
theorem pad_bad {n w : Int} (h : n < 0 ∨ w < 1 ∨ 20 < w) : padL n w = [] := by unfold padL; rw [if_pos h]
theorem pad_short {m : Nat} {w : Int} (h : ¬ ((m : Int) < 0 ∨ w < 1 ∨ 20 < w)) (h2 : w < (Lib.decDigits m).length) : padL m w = [] := by unfold padL; rw [if_neg h, Int.toNat_natCast, if_pos h2]
theorem pad_good {m k : Nat} (h : ¬ ((m : Int) < 0 ∨ (k : Int) < 1 ∨ 20 < (k : Int))) (h2 : ¬ (k : Int) < (Lib.decDigits m).length) : padL m k = List.replicate (k - (Lib.decDigits m).length) 48 ++ Lib.decDigits m := by
  unfold padL; rw [if_neg h, Int.toNat_natCast, if_neg h2, Int.toNat_natCast]
theorem repeat_zeros (c : Nat) : Lib.repeatL [48] c = List.replicate c 48 := by
  first
    | rfl
    | (induction c with
      | zero => rfl
      | succ c ih => simp_all [Lib.repeatL, List.replicate_succ])
theorem itoa_c (m : Nat) (w : World) (h : m ≤ 9223372036854775807) (ht : Tab10 w) :
    Calls Tryz.prog 35 #[.int .i64 (m : Int)] w fun e w' => e = .returned (.string (bOf (Lib.decDigits m))) ∧ Below w.heap.size w w' :=
  (Tryz.strconv_Itoa m (by omega) (by omega) w ht).mono fun _ _ ⟨h1, k, os, h2⟩ => ⟨by rw [h1, itoa_sign, decide_eq_false (by omega)]; rfl, by rw [h2]; exact below_grow k os⟩
set_option maxHeartbeats 1600000 in
theorem plnPad_any (n k : Int) (w : World) (hn : n ≤ 9223372036854775807) (ht : Tab10 w) :
    Calls Tryz.prog 23 #[.int .i64 n, .int .i64 k] w fun e w' => e = .returned (.string (bOf (padL n k))) ∧ Below w.heap.size w w' := by
  have HT := Lib.hid ht
  clear ht
  rcases (by omega : n < 0 ∨ (0 ≤ n ∧ k < 1) ∨ (0 ≤ n ∧ 1 ≤ k ∧ 20 < k) ∨ (0 ≤ n ∧ 1 ≤ k ∧ k ≤ 20)) with h | ⟨h, h1⟩ | ⟨h, h1, h2⟩ | ⟨h, h1, h2⟩
  · rw [pad_bad (.inl h)]
    go_enter Tryz.func23, Tryz.ntmps23
    go_wp2_with fail
    go_ret
    exact ⟨rfl, Below.refl _ _⟩
  · rw [pad_bad (.inr (.inl h1))]
    have h' : ¬ n < 0 := by omega
    go_enter Tryz.func23, Tryz.ntmps23
    go_wp2_with fail
    go_ret
    exact ⟨rfl, Below.refl _ _⟩
  · rw [pad_bad (.inr (.inr h2))]
    have h' : ¬ n < 0 := by omega
    have h'' : ¬ k < 1 := by omega
    go_enter Tryz.func23, Tryz.ntmps23
    go_wp2_with fail
    go_ret
    exact ⟨rfl, Below.refl _ _⟩
  · obtain ⟨m, rfl⟩ : ∃ m : Nat, n = (m : Int) := ⟨n.toNat, by omega⟩
    obtain ⟨j, rfl⟩ : ∃ j : Nat, k = (j : Int) := ⟨k.toNat, by omega⟩
    have h' : ¬ (m : Int) < 0 := by omega
    have h'' : ¬ (j : Int) < 1 := by omega
    have h3 : ¬ 20 < (j : Int) := by omega
    have HI := Lib.hid (fun (W : World) (ht : Tab10 W) => itoa_c m W (by omega) ht)
    have hsz : (bOf (Lib.decDigits m)).size ≤ 20 := dec_bound m (by omega)
    obtain ⟨Q, hQ⟩ : ∃ Q, bOf (Lib.decDigits m) = Q := ⟨_, rfl⟩
    have hQl : (Lib.decDigits m).length = Q.size := by rw [← hQ]; rfl
    have hQd : Q.data.toList = Lib.decDigits m := by rw [← hQ]; rfl
    rw [hQ] at hsz
    simp only [hQ] at HI
    by_cases hw : (j : Int) < (Q.size : Int)
    · rw [pad_short (by omega) (by rw [hQl]; exact hw)]
      clear hQ hQl hQd
      go_enter Tryz.func23, Tryz.ntmps23
      go_wp2_with fail
      refine (HI.out _ HT.out).mono ?_
      rintro e w1 ⟨rfl, hb1⟩
      go_wp2_with fail
      go_ret
      exact ⟨rfl, hb1⟩
    · rw [pad_good (by omega) (by rw [hQl]; exact hw), hQl]
      obtain ⟨c, hc⟩ : ∃ c : Nat, (j : Int) - (Q.size : Int) = (c : Int) := ⟨j - Q.size, by omega⟩
      have hcj : j - Q.size = c := by omega
      rw [hcj]
      have hc20 : c ≤ 20 := by omega
      have HR := Lib.hid (fun W : World => Tryz.strings_Repeat ⟨#[48]⟩ c W (by omega) (by show 1 * c ≤ _; omega))
      obtain ⟨Z, hZ⟩ : ∃ Z : ByteArray, (⟨(Lib.repeatL (⟨#[48]⟩ : ByteArray).data.toList c).toArray⟩ : ByteArray) = Z := ⟨_, rfl⟩
      simp only [hZ] at HR
      have hZd : Z.data.toList = List.replicate c 48 := by rw [← hZ]; exact repeat_zeros c
      have hZs : Z.size = c := by rw [← size_len, hZd, List.length_replicate]
      have hZ20 : Z.size ≤ 20 := by omega
      have HC : Hid ((Z ++ Q).data.toList = List.replicate c 48 ++ Lib.decDigits m) := Lib.hid (by rw [← hZd, ← hQd]; simp)
      clear hQ hQl hQd hZ hZd hZs hcj
      go_enter Tryz.func23, Tryz.ntmps23
      go_wp2_with fail
      refine (HI.out _ HT.out).mono ?_
      rintro e w1 ⟨rfl, hb1⟩
      have HB1 := Lib.hid hb1
      clear hb1
      go_wp2_with fail
      refine (HR.out _).mono ?_
      rintro e w2 ⟨rfl, hb2⟩
      have HB2 := Lib.hid hb2
      clear hb2 hc
      go_wp2_with fail
      go_ret
      exact ⟨ret_string HC.out, HB1.out.trans (HB2.out.mono HB1.out.size)⟩

end Go.Proofs.YtdpbpdikgcepbaaGreatDoor
namespace Go.Proofs.YtdpbpdikgcepbaaGreatDoor
open Go.RowKit Go.Shelf Oct Fix Lex

/-- "startxref" and its line's end. -/
def sxr : List UInt8 := [115, 116, 97, 114, 116, 120, 114, 101, 102, 10]
def tailX (n : Int) : List UInt8 := if n < 0 ∨ 2147483647 < n then [] else sxr ++ Lib.itoa n ++ [10, 37, 37, 69, 79, 70, 10]
theorem tail_out {n : Int} (h : n < 0 ∨ 2147483647 < n) : bOf (tailX n) = ⟨#[]⟩ := by unfold tailX; rw [if_pos h]; rfl
theorem tail_in {n : Int} (h : ¬ (n < 0 ∨ 2147483647 < n)) : tailX n = sxr ++ Lib.itoa n ++ [10, 37, 37, 69, 79, 70, 10] := by unfold tailX; rw [if_neg h]
theorem itoa_small {n : Int} (h : 0 ≤ n) (h2 : n ≤ 2147483647) : (Lib.itoa n).length ≤ 20 := by
  unfold Lib.itoa
  rw [if_neg (by omega)]
  exact dec_bound _ (by omega)

set_option maxHeartbeats 1000000 in
theorem tail_any (n : Int) (w : World) (ht : Tab10 w) :
    Calls Tryz.prog 14 #[.int .i64 n] w fun e w' => e = .returned (.string (bOf (tailX n))) ∧ Below w.heap.size w w' := by
  have hi := fun W => plnInt_any n W
  have HI := Lib.hid hi
  have HT := Lib.hid ht
  clear hi ht
  rcases (by omega : (n < -2147483647 ∨ 2147483647 < n) ∨ (¬ (n < -2147483647 ∨ 2147483647 < n) ∧ n < 0) ∨ (0 ≤ n ∧ n ≤ 2147483647)) with h | ⟨h, h1⟩ | ⟨h1, h2⟩
  · obtain ⟨e1, e2⟩ := pInt_out h
    rw [tail_out (by omega)]
    rw [e1, e2] at HI
    clear e1 e2 h
    go_enter Tryz.func14, Tryz.ntmps14
    go_wp2_with fail
    refine (HI.out _ HT.out).mono ?_
    rintro e w' ⟨rfl, hb⟩
    go_wp2_with fail
    go_ret
    exact ⟨rfl, hb⟩
  · obtain ⟨e1, e2⟩ := pInt_in h
    rw [tail_out (by omega)]
    rw [e2] at HI
    obtain ⟨X, hX⟩ : ∃ X, bOf (pIntX n) = X := ⟨_, rfl⟩
    rw [hX] at HI
    clear e1 e2 hX h
    go_enter Tryz.func14, Tryz.ntmps14
    go_wp2_with fail
    refine (HI.out _ HT.out).mono ?_
    rintro e w' ⟨rfl, hb⟩
    go_wp2_with fail
    go_ret
    exact ⟨rfl, hb⟩
  · obtain ⟨e1, e2⟩ := pInt_in (n := n) (by omega)
    have e3 := tail_in (n := n) (by omega)
    have hl := itoa_small h1 h2
    rw [e1, e2] at HI
    obtain ⟨X, hX⟩ : ∃ X, bOf (Lib.itoa n) = X := ⟨_, rfl⟩
    have hXs : X.size ≤ 20 := by rw [← hX]; exact hl
    have hXd : X.data.toList = Lib.itoa n := by rw [← hX]; rfl
    have HR : Hid ((bOf (tailX n)).data.toList = sxr ++ X.data.toList ++ [10, 37, 37, 69, 79, 70, 10]) := Lib.hid (by rw [hXd, ← e3]; rfl)
    rw [hX] at HI
    obtain ⟨R, hR⟩ : ∃ R, bOf (tailX n) = R := ⟨_, rfl⟩
    rw [hR] at HR ⊢
    clear e1 e2 e3 hX hXd hl hR
    have n0 : ¬ n < 0 := by omega
    go_enter Tryz.func14, Tryz.ntmps14
    go_wp2_with fail
    refine (HI.out _ HT.out).mono ?_
    rintro e w' ⟨rfl, hb⟩
    go_wp2_with fail
    go_ret
    exact ⟨ret_string (by rw [HR.out]; simp [sxr]), hb⟩

set_option maxHeartbeats 1000000 in
theorem tailR_any (n : Int) (w : World) :
    Calls Tryz.prog 15 #[.int .i64 n] w fun e w' => e = .returned (.string (bOf (tailX n))) ∧ Below w.heap.size w w' := by
  have hi := fun W => refInt_any n W
  have HI := Lib.hid hi
  clear hi
  rcases (by omega : n < 0 ∨ (0 ≤ n ∧ 2147483647 < n) ∨ (0 ≤ n ∧ n ≤ 2147483647)) with h | ⟨h, h1⟩ | ⟨h1, h2⟩
  · rw [tail_out (by omega)]
    go_enter Tryz.func15, Tryz.ntmps15
    go_wp2_with fail
    go_ret
    exact ⟨rfl, Below.refl _ _⟩
  · rw [tail_out (by omega)]
    have n0 : ¬ n < 0 := by omega
    go_enter Tryz.func15, Tryz.ntmps15
    go_wp2_with fail
    go_ret
    exact ⟨rfl, Below.refl _ _⟩
  · obtain ⟨e1, e2⟩ := pInt_in (n := n) (by omega)
    have e3 := tail_in (n := n) (by omega)
    have hl := itoa_small h1 h2
    rw [e1, e2] at HI
    obtain ⟨X, hX⟩ : ∃ X, bOf (Lib.itoa n) = X := ⟨_, rfl⟩
    have hXs : X.size ≤ 20 := by rw [← hX]; exact hl
    have hXd : X.data.toList = Lib.itoa n := by rw [← hX]; rfl
    have HR : Hid ((bOf (tailX n)).data.toList = sxr ++ X.data.toList ++ [10, 37, 37, 69, 79, 70, 10]) := Lib.hid (by rw [hXd, ← e3]; rfl)
    rw [hX] at HI
    obtain ⟨R, hR⟩ : ∃ R, bOf (tailX n) = R := ⟨_, rfl⟩
    rw [hR] at HR ⊢
    clear e1 e2 e3 hX hXd hl hR
    have n0 : ¬ n < 0 := by omega
    have n1 : ¬ 2147483647 < n := by omega
    go_enter Tryz.func15, Tryz.ntmps15
    go_wp2_with fail
    refine (HI.out _).mono ?_
    rintro e w' ⟨rfl, hb⟩
    go_wp2_with fail
    go_ret
    exact ⟨ret_string (by rw [HR.out]; simp [sxr]), hb⟩

/-- "%PDF-1." -/
def pdf1 : List UInt8 := [37, 80, 68, 70, 45, 49, 46]
def textX (n : Int) : List UInt8 := if n < 0 ∨ 9 < n then [] else pdf1 ++ [UInt8.ofNat (48 + n.toNat)] ++ [10, 37, 226, 227, 207, 211, 10]
def textE (n : Int) : Int := if n < 0 ∨ 9 < n then 2 else 0
theorem htx_out {n : Int} (h : n < 0 ∨ 9 < n) : bOf (textX n) = ⟨#[]⟩ ∧ textE n = 2 := by unfold textX textE; rw [if_pos h, if_pos h]; exact ⟨rfl, rfl⟩
theorem htx_in {n : Int} (h : ¬ (n < 0 ∨ 9 < n)) : textX n = pdf1 ++ [UInt8.ofNat (48 + n.toNat)] ++ [10, 37, 226, 227, 207, 211, 10] ∧ textE n = 0 := by unfold textX textE; rw [if_neg h, if_neg h]; exact ⟨rfl, rfl⟩
theorem pad_one_out {n : Int} (h : n < 0 ∨ 9 < n) : bOf (padL n 1) = ⟨#[]⟩ := by
  have : padL n 1 = [] := by
    unfold padL
    by_cases h0 : n < 0
    · rw [if_pos (Or.inl h0)]
    · rw [if_neg (by omega), if_pos]
      have h9 : ¬ n.toNat < 10 := by omega
      rw [Lib.decDigits, dif_neg h9, List.length_append]
      have : 0 < (Lib.decDigits (n.toNat / 10)).length := by
        rw [Lib.decDigits]
        split <;> simp
      simp only [List.length_cons, List.length_nil]
      omega
  rw [this]; rfl
theorem pad_one_in {n : Int} (h : ¬ (n < 0 ∨ 9 < n)) : padL n 1 = [UInt8.ofNat (48 + n.toNat)] := by
  unfold padL
  rw [if_neg (by omega), dec_small _ (by omega), if_neg (by simp)]
  rfl

set_option maxHeartbeats 1000000 in
theorem htext_any (n : Int) (w : World) (hn : n ≤ 9223372036854775807) (ht : Tab10 w) :
    Calls Tryz.prog 10 #[.int .i64 n] w fun e w' => e = .returned (.tuple #[.string (bOf (textX n)), .int .i64 (textE n)]) ∧ Below w.heap.size w w' := by
  have hi := fun W => plnPad_any n 1 W hn
  have HI := Lib.hid hi
  have HT := Lib.hid ht
  clear hi ht
  by_cases h : n < 0 ∨ 9 < n
  · obtain ⟨e1, e2⟩ := htx_out h
    rw [e1, e2]
    rw [pad_one_out h] at HI
    clear e1 e2 h
    go_enter Tryz.func10, Tryz.ntmps10
    go_wp2_with fail
    refine (HI.out _ HT.out).mono ?_
    rintro e w' ⟨rfl, hb⟩
    go_wp2_with fail
    go_ret2
    exact ⟨rfl, hb⟩
  · obtain ⟨e1, e2⟩ := htx_in h
    rw [pad_one_in h] at HI
    obtain ⟨c, hc⟩ : ∃ c, UInt8.ofNat (48 + n.toNat) = c := ⟨_, rfl⟩
    rw [hc] at e1 HI
    have HR : Hid ((bOf (textX n)).data.toList = pdf1 ++ [c] ++ [10, 37, 226, 227, 207, 211, 10]) := Lib.hid e1
    rw [e2]
    obtain ⟨R, hR⟩ : ∃ R, bOf (textX n) = R := ⟨_, rfl⟩
    rw [hR] at HR ⊢
    have hbc : bOf [c] = ⟨#[c]⟩ := rfl
    rw [hbc] at HI
    clear e1 e2 hc hR h hbc
    go_enter Tryz.func10, Tryz.ntmps10
    go_wp2_with fail
    refine (HI.out _ HT.out).mono ?_
    rintro e w' ⟨rfl, hb⟩
    go_wp2_with fail
    go_ret2
    exact ⟨ret_sn (by rw [HR.out]; simp [pdf1]) rfl, hb⟩

set_option maxHeartbeats 1000000 in
theorem htextR_any (n : Int) (w : World) :
    Calls Tryz.prog 11 #[.int .i64 n] w fun e w' => e = .returned (.tuple #[.string (bOf (textX n)), .int .i64 (textE n)]) ∧ Below w.heap.size w w' := by
  rcases (by omega : n < 0 ∨ (0 ≤ n ∧ 9 < n) ∨ (0 ≤ n ∧ n ≤ 9)) with h | ⟨h0, h⟩ | ⟨h0, h⟩
  · obtain ⟨e1, e2⟩ := htx_out (Or.inl h)
    rw [e1, e2]
    clear e1 e2
    go_enter Tryz.func11, Tryz.ntmps11
    go_wp2_with fail
    go_ret2
    exact ⟨rfl, Below.refl _ _⟩
  · obtain ⟨e1, e2⟩ := htx_out (Or.inr h)
    rw [e1, e2]
    clear e1 e2
    have n0 : ¬ n < 0 := by omega
    go_enter Tryz.func11, Tryz.ntmps11
    go_wp2_with fail
    go_ret2
    exact ⟨rfl, Below.refl _ _⟩
  · obtain ⟨e1, e2⟩ := htx_in (n := n) (by omega)
    obtain ⟨d, rfl⟩ : ∃ d : Nat, n = (d : Int) := ⟨n.toNat, by omega⟩
    have hd : d < 10 := by omega
    have hcut := dgs_cut d hd
    obtain ⟨c, hc⟩ : ∃ c, UInt8.ofNat (48 + d) = c := ⟨_, rfl⟩
    rw [Int.toNat_natCast, hc] at e1
    rw [hc] at hcut
    have HR : Hid ((bOf (textX (d : Int))).data.toList = pdf1 ++ [c] ++ [10, 37, 226, 227, 207, 211, 10]) := Lib.hid e1
    rw [e2]
    obtain ⟨R, hR⟩ : ∃ R, bOf (textX (d : Int)) = R := ⟨_, rfl⟩
    rw [hR] at HR ⊢
    clear e1 e2 hc hR
    have n1 : ¬ (9 : Int) < (d : Int) := by omega
    have n2 : ¬ (d : Int) < 0 := by omega
    go_enter Tryz.func11, Tryz.ntmps11
    go_wp2_with fail
    go_ret2
    exact ⟨ret_sn (by rw [HR.out]; simp [pdf1]) rfl, Below.refl _ _⟩
end Go.Proofs.YtdpbpdikgcepbaaGreatDoor
namespace Go.Proofs.YtdpbpdikgcepbaaGreatDoor
open Go.RowKit Go.Shelf Oct

/-- "%PDF-" and "1." -/
def pdfH : List UInt8 := [37, 80, 68, 70, 45]
def one1 : List UInt8 := [49, 46]
/-- The digit of the version, or nothing. -/
def versN (l : List UInt8) : Option UInt8 :=
  let a := findS l pdfH 0
  if a < 0 ∨ 1016 < a then none
  else if beginsS l one1 (a + 5) = false then none
  else match l[a.toNat + 7]? with
    | none => none
    | some c => if 48 ≤ c.toNat ∧ c.toNat ≤ 57 then some c else none
def versV (o : Option UInt8) : Value := match o with
  | none => .tuple #[.int .i64 0, .int .i64 0, .int .i64 17]
  | some c => .tuple #[.int .i64 1, .int .i64 ((c.toNat : Int) - 48), .int .i64 0]
theorem vers_off {l : List UInt8} {a : Int} (h : findS l pdfH 0 = a) (h2 : a < 0 ∨ 1016 < a) : versN l = none := by unfold versN; rw [h]; simp only []; rw [if_pos h2]
theorem vers_not {l : List UInt8} {a : Int} (h : findS l pdfH 0 = a) (h2 : beginsS l one1 (a + 5) = false) : versN l = none := by
  unfold versN; rw [h]; simp only []; split
  · rfl
  · first | rfl | rw [if_pos h2]
theorem vers_end {l : List UInt8} {a : Int} (h : findS l pdfH 0 = a) (h2 : l.length ≤ a.toNat + 7) : versN l = none := by
  unfold versN; rw [h]; simp only []; split
  · rfl
  · split
    · rfl
    · rw [List.getElem?_eq_none h2]
theorem vers_no {l : List UInt8} {k : Nat} {c : UInt8} (h : findS l pdfH 0 = (k : Int)) (h2 : l[k + 7]? = some c) (h3 : c.toNat < 48 ∨ 57 < c.toNat) : versN l = none := by
  unfold versN; rw [h]; simp only []; split
  · rfl
  · split
    · rfl
    · rw [Int.toNat_natCast, h2]; simp only []; rw [if_neg (by omega)]
theorem vers_yes {l : List UInt8} {k : Nat} {c : UInt8} (h : findS l pdfH 0 = (k : Int)) (h1 : (k : Int) ≤ 1016) (h0 : beginsS l one1 ((k : Int) + 5) = true) (h2 : l[k + 7]? = some c) (h3 : 48 ≤ c.toNat ∧ c.toNat ≤ 57) : versN l = some c := by
  unfold versN; rw [h]; simp only []
  rw [if_neg (by omega), if_neg (by rw [h0]; simp), Int.toNat_natCast, h2]
  simp only []
  rw [if_pos h3]
theorem occ_le {l p : List UInt8} {k : Nat} (h : Lib.occAt l p k = true) : p = [] ∨ k + p.length ≤ l.length := by
  unfold Lib.occAt at h
  have h2 := List.IsPrefix.length_le (List.isPrefixOf_iff_prefix.1 h)
  rw [List.length_drop] at h2
  cases p with
  | nil => exact .inl rfl
  | cons x t => right; simp only [List.length_cons] at h2 ⊢; omega
theorem one1_le {l : List UInt8} {k : Nat} (h : beginsS l one1 ((k : Int) + 5) = true) : k + 7 ≤ l.length := by
  have e : ((k : Int) + 5) = ((k + 5 : Nat) : Int) := by omega
  rw [e, beginsS_ne (by decide)] at h
  have := occ_le h
  simp [one1] at this
  omega

set_option maxHeartbeats 2000000 in
theorem vers_any (s : ByteArray) (w : World) (hs : s.size ≤ 1000000) (hm : MaxLenAt w) :
    Calls Tryz.prog 8 #[.string s] w fun e w' => e = .returned (versV (versN s.data.toList)) ∧ ∃ m, w' = w.drewN m := by
  obtain ⟨a, ha⟩ : ∃ a, findS s.data.toList pdfH 0 = a := ⟨_, rfl⟩
  have hf := find_c s ⟨#[37, 80, 68, 70, 45]⟩ 0 a w (by omega) hm ha
  have HF := Lib.hid hf
  have HA := Lib.hid ha
  clear hf ha hm
  rcases (by omega : a < 0 ∨ (0 ≤ a ∧ 1016 < a) ∨ (0 ≤ a ∧ a ≤ 1016)) with h | ⟨h0, h1⟩ | ⟨h0, h1⟩
  · rw [vers_off HA.out (Or.inl h)]
    go_enter Tryz.func8, Tryz.ntmps8
    go_wp2_with fail
    refine HF.out.mono ?_
    rintro e w' ⟨rfl, rfl⟩
    go_wp2_with fail
    go_ret3
    exact ⟨rfl, 0, rfl⟩
  · rw [vers_off HA.out (Or.inr h1)]
    have n0 : ¬ a < 0 := by omega
    go_enter Tryz.func8, Tryz.ntmps8
    go_wp2_with fail
    refine HF.out.mono ?_
    rintro e w' ⟨rfl, rfl⟩
    go_wp2_with fail
    go_ret3
    exact ⟨rfl, 0, rfl⟩
  · obtain ⟨k, rfl⟩ : ∃ k : Nat, a = (k : Int) := ⟨a.toNat, by omega⟩
    obtain ⟨b, hb⟩ : ∃ b, beginsS s.data.toList one1 ((k : Int) + 5) = b := ⟨_, rfl⟩
    have hg := fun W => begins_c s ⟨#[49, 46]⟩ ((k : Int) + 5) b W (by omega) hb
    have HG := Lib.hid hg
    clear hg
    have n0 : ¬ (k : Int) < 0 := by omega
    have n1 : ¬ (1016 : Int) < (k : Int) := by omega
    cases b with
    | false =>
      rw [vers_not HA.out hb]
      clear hb
      go_enter Tryz.func8, Tryz.ntmps8
      go_wp2_with fail
      refine HF.out.mono ?_
      rintro e w' ⟨rfl, rfl⟩
      go_wp2_with fail
      refine (HG.out _).mono ?_
      rintro e w' ⟨rfl, rfl⟩
      go_wp2_with fail
      go_ret3
      exact ⟨rfl, 0, rfl⟩
    | true =>
      have hk := one1_le hb
      have hsl : s.data.toList.length = s.size := by simp
      rw [hsl] at hk
      have HB := Lib.hid hb
      have HSL := Lib.hid hsl
      clear hb hsl
      by_cases he : k + 7 = s.size
      · rw [vers_end HA.out (by rw [HSL.out]; omega)]
        have x0 : ((k : Int) + 7 == (s.size : Int)) = true := by rw [beq_iff_eq]; omega
        go_enter Tryz.func8, Tryz.ntmps8
        go_wp2_with fail
        refine HF.out.mono ?_
        rintro e w' ⟨rfl, rfl⟩
        go_wp2_with fail
        refine (HG.out _).mono ?_
        rintro e w' ⟨rfl, rfl⟩
        go_wp2_with fail
        go_ret3
        exact ⟨rfl, 0, rfl⟩
      · have hlt : k + 7 < s.size := by omega
        have hel : s.data.toList[k + 7]? = some s[k + 7] := (List.getElem?_eq_getElem (by simpa using hlt)).trans rfl
        have HEL := Lib.hid hel
        clear hel
        have x0 : ((k : Int) + 7 == (s.size : Int)) = false := by rw [beq_eq_false_iff_ne]; omega
        obtain ⟨c, hc⟩ : ∃ c, s[k + 7] = c := ⟨_, rfl⟩
        rw [hc] at HEL
        rcases (by omega : c.toNat < 48 ∨ (48 ≤ c.toNat ∧ 57 < c.toNat) ∨ (48 ≤ c.toNat ∧ c.toNat ≤ 57)) with h | ⟨h, h2⟩ | ⟨h, h2⟩
        · rw [vers_no HA.out HEL.out (Or.inl h)]
          have y0 : ((c.toNat : Int) < 48) := by omega
          clear h
          go_enter Tryz.func8, Tryz.ntmps8
          go_wp2_with fail
          refine HF.out.mono ?_
          rintro e w' ⟨rfl, rfl⟩
          go_wp2_with fail
          refine (HG.out _).mono ?_
          rintro e w' ⟨rfl, rfl⟩
          go_wp2_with fail
          go_ret3
          exact ⟨rfl, 0, rfl⟩
        · rw [vers_no HA.out HEL.out (Or.inr h2)]
          have y0 : ¬ ((c.toNat : Int) < 48) := by omega
          have y1 : (57 : Int) < (c.toNat : Int) := by omega
          clear h h2
          go_enter Tryz.func8, Tryz.ntmps8
          go_wp2_with fail
          refine HF.out.mono ?_
          rintro e w' ⟨rfl, rfl⟩
          go_wp2_with fail
          refine (HG.out _).mono ?_
          rintro e w' ⟨rfl, rfl⟩
          go_wp2_with fail
          go_ret3
          exact ⟨rfl, 0, rfl⟩
        · rw [vers_yes HA.out h1 HB.out HEL.out ⟨h, h2⟩]
          have y0 : ¬ ((c.toNat : Int) < 48) := by omega
          have y1 : ¬ (57 : Int) < (c.toNat : Int) := by omega
          have z0 : IntKind.u8.wrap ((c.toNat : Int) - 48) = (c.toNat : Int) - 48 := by simp [IntKind.wrap, IntKind.bits, IntKind.signed]; omega
          clear h h2
          go_enter Tryz.func8, Tryz.ntmps8
          go_wp2_with fail
          refine HF.out.mono ?_
          rintro e w' ⟨rfl, rfl⟩
          go_wp2_with fail
          refine (HG.out _).mono ?_
          rintro e w' ⟨rfl, rfl⟩
          go_wp2_with fail
          go_quiet (fail)
          go_wp2_with fail
          go_ret3
          exact ⟨rfl, nq, rfl⟩
set_option maxHeartbeats 2000000 in
theorem versR_any (s : ByteArray) (w : World) (hs : s.size ≤ 1000000) :
    Calls Tryz.prog 9 #[.string s] w fun e w' => e = .returned (versV (versN s.data.toList)) ∧ ∃ m, w' = w.drewN m := by
  obtain ⟨a, ha⟩ : ∃ a, findS s.data.toList pdfH 0 = a := ⟨_, rfl⟩
  have hf : Calls Tryz.prog 21 #[.string s, .string ⟨#[37, 80, 68, 70, 45]⟩, .int .i64 0] w fun e w' => e = .returned (.int .i64 a) ∧ w = w' := ha ▸ find_r s ⟨#[37, 80, 68, 70, 45]⟩ 0 w (by omega) (by decide)
  have HF := Lib.hid hf
  have HA := Lib.hid ha
  clear hf ha
  rcases (by omega : a < 0 ∨ (0 ≤ a ∧ 1016 < a) ∨ (0 ≤ a ∧ a ≤ 1016)) with h | ⟨h0, h1⟩ | ⟨h0, h1⟩
  · rw [vers_off HA.out (Or.inl h)]
    go_enter Tryz.func9, Tryz.ntmps9
    go_wp2_with fail
    refine HF.out.mono ?_
    rintro e w' ⟨rfl, rfl⟩
    go_wp2_with fail
    go_ret3
    exact ⟨rfl, 0, rfl⟩
  · rw [vers_off HA.out (Or.inr h1)]
    have n0 : ¬ a < 0 := by omega
    go_enter Tryz.func9, Tryz.ntmps9
    go_wp2_with fail
    refine HF.out.mono ?_
    rintro e w' ⟨rfl, rfl⟩
    go_wp2_with fail
    go_ret3
    exact ⟨rfl, 0, rfl⟩
  · obtain ⟨k, rfl⟩ : ∃ k : Nat, a = (k : Int) := ⟨a.toNat, by omega⟩
    obtain ⟨b, hb⟩ : ∃ b, beginsS s.data.toList one1 ((k : Int) + 5) = b := ⟨_, rfl⟩
    have hg : ∀ W, Calls Tryz.prog 22 #[.string s, .string ⟨#[49, 46]⟩, .int .i64 ((k : Int) + 5)] W fun e w' => e = .returned (.bool b) ∧ W = w' := fun W => hb ▸ begins_r s ⟨#[49, 46]⟩ _ W (by omega) (by decide)
    have HG := Lib.hid hg
    clear hg
    have n0 : ¬ (k : Int) < 0 := by omega
    have n1 : ¬ (1016 : Int) < (k : Int) := by omega
    cases b with
    | false =>
      rw [vers_not HA.out hb]
      clear hb
      go_enter Tryz.func9, Tryz.ntmps9
      go_wp2_with fail
      refine HF.out.mono ?_
      rintro e w' ⟨rfl, rfl⟩
      go_wp2_with fail
      refine (HG.out _).mono ?_
      rintro e w' ⟨rfl, rfl⟩
      go_wp2_with fail
      go_ret3
      exact ⟨rfl, 0, rfl⟩
    | true =>
      have hk := one1_le hb
      have hsl : s.data.toList.length = s.size := by simp
      rw [hsl] at hk
      have HB := Lib.hid hb
      have HSL := Lib.hid hsl
      clear hb hsl
      by_cases he : k + 7 = s.size
      · rw [vers_end HA.out (by rw [HSL.out]; omega)]
        have x0 : (s.size : Int) ≤ (k : Int) + 7 := by omega
        go_enter Tryz.func9, Tryz.ntmps9
        go_wp2_with fail
        refine HF.out.mono ?_
        rintro e w' ⟨rfl, rfl⟩
        go_wp2_with fail
        refine (HG.out _).mono ?_
        rintro e w' ⟨rfl, rfl⟩
        go_wp2_with fail
        go_ret3
        exact ⟨rfl, 0, rfl⟩
      · have hlt : k + 7 < s.size := by omega
        have hel : s.data.toList[k + 7]? = some s[k + 7] := (List.getElem?_eq_getElem (by simpa using hlt)).trans rfl
        have HEL := Lib.hid hel
        clear hel
        have x0 : ¬ (s.size : Int) ≤ (k : Int) + 7 := by omega
        obtain ⟨c, hc⟩ : ∃ c, s[k + 7] = c := ⟨_, rfl⟩
        rw [hc] at HEL
        rcases (by omega : c.toNat < 48 ∨ (48 ≤ c.toNat ∧ 57 < c.toNat) ∨ (48 ≤ c.toNat ∧ c.toNat ≤ 57)) with h | ⟨h, h2⟩ | ⟨h, h2⟩
        · rw [vers_no HA.out HEL.out (Or.inl h)]
          have y0 : ((c.toNat : Int) < 48) := by omega
          clear h
          go_enter Tryz.func9, Tryz.ntmps9
          go_wp2_with fail
          refine HF.out.mono ?_
          rintro e w' ⟨rfl, rfl⟩
          go_wp2_with fail
          refine (HG.out _).mono ?_
          rintro e w' ⟨rfl, rfl⟩
          go_wp2_with fail
          go_ret3
          exact ⟨rfl, 0, rfl⟩
        · rw [vers_no HA.out HEL.out (Or.inr h2)]
          have y0 : ¬ ((c.toNat : Int) < 48) := by omega
          have y1 : (57 : Int) < (c.toNat : Int) := by omega
          clear h h2
          go_enter Tryz.func9, Tryz.ntmps9
          go_wp2_with fail
          refine HF.out.mono ?_
          rintro e w' ⟨rfl, rfl⟩
          go_wp2_with fail
          refine (HG.out _).mono ?_
          rintro e w' ⟨rfl, rfl⟩
          go_wp2_with fail
          go_ret3
          exact ⟨rfl, 0, rfl⟩
        · rw [vers_yes HA.out h1 HB.out HEL.out ⟨h, h2⟩]
          have y0 : ¬ ((c.toNat : Int) < 48) := by omega
          have y1 : ¬ (57 : Int) < (c.toNat : Int) := by omega
          have z0 : IntKind.u8.wrap ((c.toNat : Int) - 48) = (c.toNat : Int) - 48 := by simp [IntKind.wrap, IntKind.bits, IntKind.signed]; omega
          clear h h2
          go_enter Tryz.func9, Tryz.ntmps9
          go_wp2_with fail
          refine HF.out.mono ?_
          rintro e w' ⟨rfl, rfl⟩
          go_wp2_with fail
          refine (HG.out _).mono ?_
          rintro e w' ⟨rfl, rfl⟩
          go_wp2_with fail
          go_quiet (fail)
          go_wp2_with fail
          go_ret3
          exact ⟨rfl, nq, rfl⟩
end Go.Proofs.YtdpbpdikgcepbaaGreatDoor
