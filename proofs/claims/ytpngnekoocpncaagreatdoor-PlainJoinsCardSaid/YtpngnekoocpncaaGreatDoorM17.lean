/-
  Lemmas and walks, joined: StrAt, PlnC, PlnS, PlnE, PlnD, PlnLv.
-/
import Derived.Test.YtpngnekoocpncaaGreatDoorM07
import Derived.Lib.AppendStr
import Derived.Test.YtpngnekoocpncaaGreatDoorM13
import Derived.Test.YtpngnekoocpncaaGreatDoorM16
import Derived.Test.YtpngnekoocpncaaGreatDoorM04
import Derived.IntWalk
namespace Go.Proofs.YtpngnekoocpncaaGreatDoor
open Go.RowKit Go.Lib

section
variable {P : Program} (w : World)
theorem run_append_string_at (base : Nat) (t u ty e : TypeId) (i : TypeInfo) (ht : P.underlying t = some (.slice e)) (hu : P.underlying u = some .string) (hi : P.info? e = some i) (hz : i.zero = some (.int .u8 0))
    (hsize : i.size = 1) (hby : i.bytes = 1) (v : Value) (n : Nat) (xs : List Value) (hown : w.ownsRow base e 1 v n xs) (s : ByteArray)
    (h63 : n + s.size ≤ maxLen) (hbytes : n + s.size ≤ 140737488355328) (hbase : base ≤ w.heap.size) :
    ∃ v' w', (Builtin.append_ #[t, u] ty #[v, .string s]).run P w = .ok v' w' ∧ w'.ownsRow base e 1 v' (n + s.size) (xs ++ strCells s) ∧ w.grownBy w' v.ownBlock ∧ (v'.ownBlock = v.ownBlock ∨ v'.ownBlock = some w.heap.size) := by
  obtain ⟨v', w', hrun, h1, h2, h3⟩ := run_append_own_string (P := P) w base t u ty e i ht hu hi hz hsize hby v n xs hown s h63 hbytes hbase
  refine ⟨v', w', hrun, h1, h2, ?_⟩
  have hsmall : n + s.size ≤ 9223372036854775807 := by simp only [maxLen] at h63; omega
  have hxl : xs.length = n := by simpa using hown.1
  have known : ∀ {x : Value} {y : World}, (Builtin.append_ #[t, u] ty #[v, .string s]).run P w = .ok x y → v' = x := fun h => by
    have e := hrun.symm.trans h
    injection e
  rcases hown.2 with ⟨rfl, rfl⟩ | ⟨g, cap, cur, rfl, hbg, hg, hnc, hcm, hcs, htake⟩
  · by_cases hm : s.size = 0
    · exact Or.inl (by rw [h3.2 ⟨rfl, hm⟩])
    · rw [known (run_append_nil_string (P := P) w t u ty e i (.int .u8 0) ht hu hi hz s (by omega) (by omega) (by rw [hby]; omega))]
      exact Or.inr rfl
  · by_cases hroom : n + s.size ≤ cap
    · have hcs' : cur.size = cap := by simpa using hcs
      rw [known (run_append_room_string (P := P) w t u ty e i ht hu hi hsize g n cap cur hg s hroom (by omega))]
      exact Or.inl rfl
    · have holds : ∀ j u, xs[j]? = some u → w.cell? ((⟨g, 0, none⟩ : Addr).add j) = some u := hown.cells (g := g) rfl
      rw [known (run_append_grow_string (P := P) w t u ty e i (.int .u8 0) ht hu hi hz ⟨g, 0, none⟩ n cap xs (by rw [hsize]; simpa using hxl) holds s (by omega) (by omega) (by rw [hby]; exact growslice_fits (by omega) (by omega)))]
      exact Or.inr rfl

theorem wpList_append_string_at {ops : Array Oper} {rest : List Oper} {o : Oper} {a : Act} {Q : Exit → Act → World → Prop} (hgd : o.guard = none) (sl x : Operand) (t u : TypeId)
    (ho : o.op = .call { callee := .builtin .append, args := #[sl, x], argTypes := #[t, u] })
    (base : Nat) (e : TypeId) (i : TypeInfo) (ht : P.underlying t = some (.slice e)) (hu : P.underlying u = some .string) (hi : P.info? e = some i) (hz : i.zero = some (.int .u8 0))
    (hsize : i.size = 1) (hby : i.bytes = 1)
    (v : Value) (n : Nat) (xs : List Value) (hs : a.eval sl = v) (hown : w.ownsRow base e 1 v n xs) (s : ByteArray) (hx : a.eval x = .string s)
    (h63 : n + s.size ≤ maxLen) (hbytes : n + s.size ≤ 140737488355328) (hbase : base ≤ w.heap.size)
    (h : ∀ v' w', w'.ownsRow base e 1 v' (n + s.size) (xs ++ strCells s) → w.grownBy w' v.ownBlock → (v'.ownBlock = v.ownBlock ∨ v'.ownBlock = some w.heap.size) → wpList P ops Q rest (a.put o.dst v') w') : wpList P ops Q (o :: rest) a w := by
  refine wpList_plain hgd fun K hK => ?_
  obtain ⟨v', w', hr, h2, h3, h4⟩ := run_append_string_at (P := P) w base t u o.type e i ht hu hi hz hsize hby v n xs hown s h63 hbytes hbase
  unfold Oper.wp execOp
  simp only [ho, resolve, invoke, builtin, Sem.run_bind, Sem.run_pure, Result.andThen_ok, List.map_toArray, List.map_cons, List.map_nil, hs, hx, hr]
  exact hK _ _ (h v' w' h2 h3 h4)
end
end Go.Proofs.YtpngnekoocpncaaGreatDoor
namespace Go.Proofs.YtpngnekoocpncaaGreatDoor
open Go.RowKit Oct Fix Lex

theorem str_cells (s : ByteArray) : Lib.strCells s = cellsOf s.data.toList := rfl
theorem conv_one (w : World) (c : UInt8) : (convert 45 9 (.slice (some ⟨w.heap.size, 0, none⟩) 1 1)).run Tryz.prog (w.alloc (.cells #[.int .u8 (c.toNat : Int)] 5)) = .ok (.string ⟨#[c]⟩) (w.alloc (.cells #[.int .u8 (c.toNat : Int)] 5)) :=
  run_string_of_own (base := 0) (l := [c]) (World.ownsRow_lit w #[.int .u8 (c.toNat : Int)] 1 (Nat.zero_le _) (by unfold maxLen; omega) rfl) rfl
def nmB (c : UInt8) : Bool := decide (c.toNat < 33) || decide (126 < c.toNat) || c == 35 || delimS c
theorem nmB_yes {c : UInt8} (h : nmB c = true) : nameC c = 35 :: hexS [c] := by
  unfold nameC
  rw [if_pos]
  unfold nmB at h
  simp only [Bool.or_eq_true, decide_eq_true_eq, beq_iff_eq] at h
  rcases h with ((h | h) | h) | h
  · exact .inl h
  · exact .inr (.inl h)
  · exact .inr (.inr (.inl h))
  · exact .inr (.inr (.inr h))
theorem nmB_no {c : UInt8} (h : nmB c = false) : nameC c = [c] ∧ 33 ≤ (c.toNat : Int) ∧ (c.toNat : Int) ≤ 126 ∧ ((c.toNat : Int) == 35) = false ∧ delimS c = false := by
  unfold nmB at h
  simp only [Bool.or_eq_false_iff, decide_eq_false_iff_not, beq_eq_false_iff_ne] at h
  obtain ⟨⟨⟨h1, h2⟩, h3⟩, h4⟩ := h
  refine ⟨?_, by omega, by omega, ?_, h4⟩
  · unfold nameC
    rw [if_neg]
    rintro (h | h | h | h)
    · exact h1 h
    · exact h2 h
    · exact h3 h
    · rw [h4] at h; cases h
  · rw [Bool.eq_false_iff]
    exact fun e => h3 (byte_is (by decide) e)
/-- The ways in which a byte is not taken as it is, in the walk's words. -/
theorem nmB_ways {c : UInt8} (h : nmB c = true) : (c.toNat : Int) < 33 ∨ (33 ≤ (c.toNat : Int) ∧ 126 < (c.toNat : Int)) ∨ (33 ≤ (c.toNat : Int) ∧ (c.toNat : Int) ≤ 126 ∧ ((c.toNat : Int) == 35) = true) ∨ (33 ≤ (c.toNat : Int) ∧ (c.toNat : Int) ≤ 126 ∧ ((c.toNat : Int) == 35) = false ∧ delimS c = true) := by
  unfold nmB at h
  simp only [Bool.or_eq_true, decide_eq_true_eq, beq_iff_eq] at h
  rcases (by omega : (c.toNat : Int) < 33 ∨ (33 ≤ (c.toNat : Int) ∧ 126 < (c.toNat : Int)) ∨ (33 ≤ (c.toNat : Int) ∧ (c.toNat : Int) ≤ 126)) with h1 | h1 | h1
  · exact .inl h1
  · exact .inr (.inl h1)
  · by_cases h2 : ((c.toNat : Int) == 35) = true
    · exact .inr (.inr (.inl ⟨h1.1, h1.2, h2⟩))
    · refine .inr (.inr (.inr ⟨h1.1, h1.2, Bool.eq_false_iff.2 h2, ?_⟩))
      rcases h with ((h | h) | h) | h
      · omega
      · omega
      · exact absurd (by rw [h]; rfl) h2
      · exact h
theorem delim_b (c : UInt8) (b : Bool) (w : World) (h : delimS c = b) : Calls Tryz.prog 23 #[.int .u8 (c.toNat : Int)] w fun e w' => e = .returned (.bool b) ∧ w = w' := h ▸ delim_any c w
section
variable (c : UInt8) (w : World) (l : List UInt8) (A : Option Addr) (C base : Nat)
set_option maxHeartbeats 4000000 in
theorem namePut_esc (hl : l.length ≤ 4000000000) (hb : base ≤ w.heap.size) (h : nmB c = true) (hown : w.ownsRow base 5 1 (.slice A l.length C) l.length (cellsOf l)) :
    Calls Tryz.prog 22 #[.slice A l.length C, .int .u8 (c.toNat : Int)] w (RowOut base (l ++ 35 :: hexS [c]) w) := by
  obtain ⟨i5, hi, hz0, hz1, hz2⟩ := info_parts info5
  have HO := Lib.hid hown
  clear hown
  have HD := Lib.hid (fun (b : Bool) (W : World) (h : delimS c = b) => delim_b c b W h)
  have hx := fun W : World => hex_any ⟨#[c]⟩ W (by show 1 ≤ 4000000000; decide)
  obtain ⟨X, hX⟩ : ∃ X, hexB ⟨#[c]⟩ = X := ⟨_, rfl⟩
  have hxl : X.data.toList = hexS [c] := by rw [← hX]; rfl
  have hxs : X.size = 2 := by rw [← size_len, hxl]; rfl
  have HX := Lib.hid (fun W : World => (hX ▸ hx W : Calls Tryz.prog 20 #[.string ⟨#[c]⟩] W fun e w' => e = .returned (.string X) ∧ Below W.heap.size W w'))
  have HXL := Lib.hid hxl
  have HXS := Lib.hid hxs
  clear hx hX hxl hxs
  rcases nmB_ways h with h | ⟨h, h'⟩ | ⟨h, h', h''⟩ | ⟨h, h', h'', h'''⟩
  all_goals
    try have HDl := Lib.hid h'''
    try clear h'''
    go_enter Tryz.func22, Tryz.ntmps22
    go_wp2_with (first | (go_at_call 23; refine (HD.out true _ HDl.out).mono ?_; rintro e w' ⟨rfl, rfl⟩) | (at_builtin; refine wpList_append_own _ rfl _ _ 45 rfl base 5 i5 (.int .u8 0) 1 1 Tryz.underlying45 hi hz0 hz1 hz2 rfl (by decide) _ _ _ rfl (HO.out.alloc _) ⟨w.heap.size, 0, none⟩ 1 1 [.int .u8 35] rfl rfl (World.news_of_block (heap_alloc_new w _)) (by simp [Value.oneCell']) (by unfold maxLen; omega) (by omega) (by simp; omega) ?_))
    intro v2 w2 hown2 hgrow2
    intros
    obtain ⟨A2, C2, rfl⟩ := own_form hown2
    have hbel : Below base w w2 := ((Below.refl _ _).alloc hb _).grown hgrow2 (by simp; omega) (fun g h => (HO.out.lt g h).1)
    have hbs2 := hbel.size
    have hbs3 : w.heap.size + 1 ≤ w2.heap.size := by have := hgrow2.size; simpa using this
    have HBE := Lib.hid hbel
    have HO2 := Lib.hid hown2
    have hconv := conv_one w2 c
    clear hbel hown2 hgrow2
    go_wp2_with fail
    refine (HX.out _).mono ?_
    rintro e w3 ⟨rfl, hb3⟩
    have hown3 := own_below (HO2.out.alloc (.cells #[.int .u8 (c.toNat : Int)] 5)) hb3 (Nat.le_refl _)
    have hbel3 : Below base w w3 := (HBE.out.alloc (by have := HBE.out.size; omega) _).trans (hb3.mono (by simp; omega))
    have hb5 : base ≤ w3.heap.size := by have := hb3.size; simp at this; omega
    have HO3 := Lib.hid hown3
    have HB3 := Lib.hid hbel3
    clear hconv hown3 hbel3 hb3
    have hxs2 : X.size ≤ 2 := by have := HXS.out; omega
    go_wp2_with (at_builtin; refine wpList_append_string_at _ rfl _ _ _ _ rfl base 5 i5 Tryz.underlying45 Tryz.underlying9 hi hz0 hz1 hz2 _ _ _ rfl HO3.out X rfl (by unfold maxLen; omega) (by omega) hb5 ?_)
    intro v4 w4 hown4 hgrow4 hat4
    intros
    go_wp2
    go_ret
    exact RowOut.mk (by rw [HXS.out]; simp [hexS]) (by rw [str_cells, HXL.out, cellsOf_append]; simp [cellsOf]) hown4 (HB3.out.grown hgrow4 hb5 (fun g h => (HO3.out.lt g h).1))
set_option maxRecDepth 100000 in
set_option maxHeartbeats 2000000 in
theorem namePut_plain (hl : l.length ≤ 4000000000) (hb : base ≤ w.heap.size) (h1 : 33 ≤ (c.toNat : Int)) (h2 : (c.toNat : Int) ≤ 126) (h3 : ((c.toNat : Int) == 35) = false) (h4 : delimS c = false) (hown : w.ownsRow base 5 1 (.slice A l.length C) l.length (cellsOf l)) :
    Calls Tryz.prog 22 #[.slice A l.length C, .int .u8 (c.toNat : Int)] w (RowOut base (l ++ [c]) w) := by
  obtain ⟨i5, hi, hz0, hz1, hz2⟩ := info_parts info5
  have HO := Lib.hid hown
  have HD := Lib.hid (fun W : World => delim_b c false W h4)
  clear hown h4
  go_enter Tryz.func22, Tryz.ntmps22
  go_wp2_with (first | (go_at_call 23; refine (HD.out _).mono ?_; rintro e w' ⟨rfl, rfl⟩) | (at_builtin; refine wpList_append_own _ rfl _ _ 45 rfl base 5 i5 (.int .u8 0) 1 1 Tryz.underlying45 hi hz0 hz1 hz2 rfl (by decide) _ _ _ rfl (HO.out.alloc _) ⟨w.heap.size, 0, none⟩ 1 1 [.int .u8 (c.toNat : Int)] rfl rfl (World.news_of_block (heap_alloc_new w _)) (by simp [Value.oneCell']) (by unfold maxLen; omega) (by omega) (by simp; omega) ?_))
  intro v2 w2 hown2 hgrow2
  intros
  go_wp2
  go_ret
  exact RowOut.mk (by simp) (cells_snoc l c) hown2 (((Below.refl _ _).alloc hb _).grown hgrow2 (by simp; omega) (fun g h => (HO.out.lt g h).1))
theorem namePut_any (hl : l.length ≤ 4000000000) (hb : base ≤ w.heap.size) (hown : w.ownsRow base 5 1 (.slice A l.length C) l.length (cellsOf l)) :
    Calls Tryz.prog 22 #[.slice A l.length C, .int .u8 (c.toNat : Int)] w (RowOut base (l ++ nameC c) w) := by
  cases h : nmB c with
  | true => rw [nmB_yes h]; exact namePut_esc c w l A C base hl hb h hown
  | false =>
    obtain ⟨h0, h1, h2, h3, h4⟩ := nmB_no h
    rw [h0]
    exact namePut_plain c w l A C base hl hb h1 h2 h3 h4 hown
end

/-! ### Name. -/
def nameX (s : ByteArray) : List UInt8 := if 127 < s.size then [] else if (0 : UInt8) ∈ s.data.toList then [] else nameL s.data.toList
def nameE (s : ByteArray) : Int := if 127 < s.size then 5 else if (0 : UInt8) ∈ s.data.toList then 3 else 0
theorem name_long {s : ByteArray} (h : 127 < s.size) : nameX s = [] ∧ nameE s = 5 := by unfold nameX nameE; rw [if_pos h, if_pos h]; exact ⟨rfl, rfl⟩
theorem name_zero {s : ByteArray} (h : ¬ 127 < s.size) (h0 : (0 : UInt8) ∈ s.data.toList) : nameX s = [] ∧ nameE s = 3 := by unfold nameX nameE; rw [if_neg h, if_neg h, if_pos h0, if_pos h0]; exact ⟨rfl, rfl⟩
theorem name_good {s : ByteArray} (h : ¬ 127 < s.size) (h0 : ¬ (0 : UInt8) ∈ s.data.toList) : nameX s = nameL s.data.toList ∧ nameE s = 0 := by unfold nameX nameE; rw [if_neg h, if_neg h, if_neg h0, if_neg h0]; exact ⟨rfl, rfl⟩
theorem index_mem (l : List UInt8) (c : UInt8) : 0 ≤ Lib.indexByte l c ↔ c ∈ l := by
  induction l with
  | nil => simp [Lib.indexByte]
  | cons a l ih =>
    have hge := Lib.indexByte_ge l c
    rw [Lib.indexByte]
    by_cases h : a = c
    · subst h; simp
    · have h' : (a == c) = false := by simpa using h
      rw [h', List.mem_cons, ← ih]
      by_cases h2 : Lib.indexByte l c = -1
      · have h3 : (Lib.indexByte l c == -1) = true := by simpa using h2
        simp [h2, Ne.symm h]
      · have h3 : (Lib.indexByte l c == -1) = false := by simpa using h2
        simp [h3, Ne.symm h]
        omega
theorem has_zero (s : ByteArray) (b : Bool) (w : World) (h : decide (0 ≤ Lib.indexByte s.data.toList 0) = b) :
    Calls Tryz.prog 21 #[.string s, .string ⟨#[0]⟩] w fun e w' => e = .returned (.bool b) ∧ w = w' :=
  (Tryz.strings_Contains_one s 0 w).mono fun _ _ ⟨h1, h2⟩ => ⟨by rw [h1, h], h2.symm⟩
theorem nameC_le (c : UInt8) : (nameC c).length ≤ 4 := by have := nameC_len c; omega
set_option maxHeartbeats 1600000 in
theorem plnName_any (s : ByteArray) (w : World) (hs : s.size ≤ 1000000) :
    Calls Tryz.prog 10 #[.string s] w fun e w' => e = .returned (.tuple #[.string (bOf (nameX s)), .int .i64 (nameE s)]) ∧ Below w.heap.size w w' := by
  by_cases h : 127 < s.size
  · obtain ⟨e1, e2⟩ := name_long h
    rw [e1, e2]
    clear e1 e2
    have h' : (127 : Int) < (s.size : Int) := by omega
    go_enter Tryz.func10, Tryz.ntmps10
    go_wp2_with fail
    go_ret2
    exact ⟨rfl, Below.refl _ _⟩
  · have h' : ¬ (127 : Int) < (s.size : Int) := by omega
    by_cases h0 : (0 : UInt8) ∈ s.data.toList
    · obtain ⟨e1, e2⟩ := name_zero h h0
      rw [e1, e2]
      clear e1 e2
      have HZ := Lib.hid (fun W : World => has_zero s true W (decide_eq_true ((index_mem _ _).2 h0)))
      clear h0
      go_enter Tryz.func10, Tryz.ntmps10
      go_wp2_with fail
      refine (HZ.out _).mono ?_
      rintro e w1 ⟨rfl, rfl⟩
      go_wp2_with fail
      go_ret2
      exact ⟨rfl, Below.refl _ _⟩
    · obtain ⟨e1, e2⟩ := name_good h h0
      rw [e1, e2]
      clear e1 e2
      have HZ := Lib.hid (fun W : World => has_zero s false W (decide_eq_false (fun h => h0 ((index_mem _ _).1 h))))
      have hsz : (bOf (s.data.toList.flatMap nameC)).size ≤ 4 * s.size := by
        have := flat_len nameC nameC_le s.data.toList
        rw [size_len] at this
        exact this
      have hsz2 : (bOf (s.data.toList.flatMap nameC)).size ≤ 131068 := by omega
      have hcat : ((⟨#[47]⟩ : ByteArray) ++ bOf (s.data.toList.flatMap nameC)).data.toList = nameL s.data.toList := by simp [nameL, nameB, bOf]
      have HE := Lib.hid (fun W : World => each_any 22 nameC nameC_le s W (by omega) (fun _ _ => by first | kernel_rfl | rfl) (fun c W2 l A C h1 h2 h3 => namePut_any c W2 l A C _ h1 h2 h3))
      obtain ⟨H, hH⟩ : ∃ H, bOf (s.data.toList.flatMap nameC) = H := ⟨_, rfl⟩
      rw [hH] at hcat hsz2
      simp only [hH] at HE
      have HC := Lib.hid hcat
      clear hcat hH h0 hsz
      go_enter Tryz.func10, Tryz.ntmps10
      go_wp2_with fail
      refine (HZ.out _).mono ?_
      rintro e w1 ⟨rfl, rfl⟩
      go_wp2_with fail
      refine (HE.out _).mono ?_
      rintro e w1 ⟨rfl, hb1⟩
      go_wp2_with fail
      go_ret2
      exact ⟨ret_sn HC.out rfl, hb1⟩

/-! ### The document's. -/
theorem take_snoc (s : ByteArray) (k : Nat) (h : k < s.size) : s.data.toList.take (k + 1) = s.data.toList.take k ++ [s[k]] := by
  rw [List.take_succ_eq_append_getElem (by simpa using h)]; rfl
theorem cut_byte (s : ByteArray) (k : Nat) (h : k < s.size) : s.extract k (k + 1) = ⟨#[s[k]]⟩ := by
  apply bytes_eq
  rw [ByteArray.data_extract, Array.toList_extract, List.extract_eq_take_drop, drop_cons s k h, show k + 1 - k = 1 from by omega]
  rfl
end Go.Proofs.YtpngnekoocpncaaGreatDoor
namespace Go.Proofs.YtpngnekoocpncaaGreatDoor
open Go.RowKit Oct Fix Lex

theorem wrap8 (n : Int) (h0 : 0 ≤ n) (h1 : n < 256) : IntKind.u8.wrap n = n := by rw [IntKind.wrap_u8]; omega
end Go.Proofs.YtpngnekoocpncaaGreatDoor
namespace Go.Proofs.YtpngnekoocpncaaGreatDoor
open Go.RowKit Oct Fix Lex

theorem dec_small (n : Nat) (h : n < 10) : Lib.decDigits n = [UInt8.ofNat (48 + n)] := by rw [Lib.decDigits, dif_pos h]
theorem dgs_cut (d : Nat) (h : d < 10) : (⟨#[48, 49, 50, 51, 52, 53, 54, 55, 56, 57]⟩ : ByteArray).extract d (d + 1) = ⟨#[UInt8.ofNat (48 + d)]⟩ := by
  rcases (by omega : d = 0 ∨ d = 1 ∨ d = 2 ∨ d = 3 ∨ d = 4 ∨ d = 5 ∨ d = 6 ∨ d = 7 ∨ d = 8 ∨ d = 9) with rfl | rfl | rfl | rfl | rfl | rfl | rfl | rfl | rfl | rfl <;> rfl
theorem dec_bound (n : Nat) (h : n ≤ 9223372036854775807) : (Lib.decDigits n).length ≤ 20 := by
  rw [Lib.decDigits_length]
  exact Lib.nDigits_le20 _ (by omega)

/-! ### Pad. -/
theorem pad_bad {n w : Int} (h : n < 0 ∨ w < 1 ∨ 20 < w) : padL n w = [] := by unfold padL; rw [if_pos h]
theorem pad_short {m : Nat} {w : Int} (h : ¬ ((m : Int) < 0 ∨ w < 1 ∨ 20 < w)) (h2 : w < (Lib.decDigits m).length) : padL m w = [] := by unfold padL; rw [if_neg h, Int.toNat_natCast, if_pos h2]
theorem pad_good {m k : Nat} (h : ¬ ((m : Int) < 0 ∨ (k : Int) < 1 ∨ 20 < (k : Int))) (h2 : ¬ (k : Int) < (Lib.decDigits m).length) : padL m k = List.replicate (k - (Lib.decDigits m).length) 48 ++ Lib.decDigits m := by
  unfold padL; rw [if_neg h, Int.toNat_natCast, if_neg h2, Int.toNat_natCast]
theorem repeat_zeros (c : Nat) : Lib.repeatL [48] c = List.replicate c 48 := by
  first
    | rfl
    | (induction c with
      | zero => rfl
      | succ c ih => simp_all [Lib.repeatL, List.replicate_succ])
theorem itoa_c (m : Nat) (w : World) (h : m ≤ 9223372036854775807) (ht : Tab10 w) :
    Calls Tryz.prog 33 #[.int .i64 (m : Int)] w fun e w' => e = .returned (.string (bOf (Lib.decDigits m))) ∧ Below w.heap.size w w' :=
  (Tryz.strconv_Itoa m (by omega) (by omega) w ht).mono fun _ _ ⟨h1, k, os, h2⟩ => ⟨by rw [h1, itoa_sign, decide_eq_false (by omega)]; rfl, by rw [h2]; exact below_grow k os⟩
set_option maxHeartbeats 1600000 in
theorem plnPad_any (n k : Int) (w : World) (hn : n ≤ 9223372036854775807) (ht : Tab10 w) :
    Calls Tryz.prog 15 #[.int .i64 n, .int .i64 k] w fun e w' => e = .returned (.string (bOf (padL n k))) ∧ Below w.heap.size w w' := by
  have HT := Lib.hid ht
  clear ht
  rcases (by omega : n < 0 ∨ (0 ≤ n ∧ k < 1) ∨ (0 ≤ n ∧ 1 ≤ k ∧ 20 < k) ∨ (0 ≤ n ∧ 1 ≤ k ∧ k ≤ 20)) with h | ⟨h, h1⟩ | ⟨h, h1, h2⟩ | ⟨h, h1, h2⟩
  · rw [pad_bad (.inl h)]
    go_enter Tryz.func15, Tryz.ntmps15
    go_wp2_with fail
    go_ret
    exact ⟨rfl, Below.refl _ _⟩
  · rw [pad_bad (.inr (.inl h1))]
    have h' : ¬ n < 0 := by omega
    go_enter Tryz.func15, Tryz.ntmps15
    go_wp2_with fail
    go_ret
    exact ⟨rfl, Below.refl _ _⟩
  · rw [pad_bad (.inr (.inr h2))]
    have h' : ¬ n < 0 := by omega
    have h'' : ¬ k < 1 := by omega
    go_enter Tryz.func15, Tryz.ntmps15
    go_wp2_with fail
    go_ret
    exact ⟨rfl, Below.refl _ _⟩
  · obtain ⟨m, rfl⟩ : ∃ m : Nat, n = (m : Int) := ⟨n.toNat, by omega⟩
    obtain ⟨j, rfl⟩ : ∃ j : Nat, k = (j : Int) := ⟨k.toNat, by omega⟩
    have h' : ¬ (m : Int) < 0 := by omega
    have h'' : ¬ (j : Int) < 1 := by omega
    have h3 : ¬ 20 < (j : Int) := by omega
    have HI := Lib.hid (fun (W : World) (ht : Tab10 W) => itoa_c m W (by omega) ht)
    have hsz : (bOf (Lib.decDigits m)).size ≤ 20 := dec_bound m (by omega)
    obtain ⟨Q, hQ⟩ : ∃ Q, bOf (Lib.decDigits m) = Q := ⟨_, rfl⟩
    have hQl : (Lib.decDigits m).length = Q.size := by rw [← hQ]; rfl
    have hQd : Q.data.toList = Lib.decDigits m := by rw [← hQ]; rfl
    rw [hQ] at hsz
    simp only [hQ] at HI
    by_cases hw : (j : Int) < (Q.size : Int)
    · rw [pad_short (by omega) (by rw [hQl]; exact hw)]
      clear hQ hQl hQd
      go_enter Tryz.func15, Tryz.ntmps15
      go_wp2_with fail
      refine (HI.out _ HT.out).mono ?_
      rintro e w1 ⟨rfl, hb1⟩
      go_wp2_with fail
      go_ret
      exact ⟨rfl, hb1⟩
    · rw [pad_good (by omega) (by rw [hQl]; exact hw), hQl]
      obtain ⟨c, hc⟩ : ∃ c : Nat, (j : Int) - (Q.size : Int) = (c : Int) := ⟨j - Q.size, by omega⟩
      have hcj : j - Q.size = c := by omega
      rw [hcj]
      have hc20 : c ≤ 20 := by omega
      have HR := Lib.hid (fun W : World => Tryz.strings_Repeat ⟨#[48]⟩ c W (by omega) (by show 1 * c ≤ _; omega))
      obtain ⟨Z, hZ⟩ : ∃ Z : ByteArray, (⟨(Lib.repeatL (⟨#[48]⟩ : ByteArray).data.toList c).toArray⟩ : ByteArray) = Z := ⟨_, rfl⟩
      simp only [hZ] at HR
      have hZd : Z.data.toList = List.replicate c 48 := by rw [← hZ]; exact repeat_zeros c
      have hZs : Z.size = c := by rw [← size_len, hZd, List.length_replicate]
      have hZ20 : Z.size ≤ 20 := by omega
      have HC : Hid ((Z ++ Q).data.toList = List.replicate c 48 ++ Lib.decDigits m) := Lib.hid (by rw [← hZd, ← hQd]; simp)
      clear hQ hQl hQd hZ hZd hZs hcj
      go_enter Tryz.func15, Tryz.ntmps15
      go_wp2_with fail
      refine (HI.out _ HT.out).mono ?_
      rintro e w1 ⟨rfl, hb1⟩
      have HB1 := Lib.hid hb1
      clear hb1
      go_wp2_with fail
      refine (HR.out _).mono ?_
      rintro e w2 ⟨rfl, hb2⟩
      have HB2 := Lib.hid hb2
      clear hb2 hc
      go_wp2_with fail
      go_ret
      exact ⟨ret_string HC.out, HB1.out.trans (HB2.out.mono HB1.out.size)⟩

end Go.Proofs.YtpngnekoocpncaaGreatDoor
namespace Go.Proofs.YtpngnekoocpncaaGreatDoor
open Go.RowKit Oct Fix Lex

/-- A slice of strings, as it lies. -/
def Strs (w : World) (A : Option Addr) (ps : List ByteArray) : Prop :=
  ∀ j (h : j < ps.length), ∃ b off : Nat, A = some ⟨b, off, none⟩ ∧ b < w.heap.size ∧ w.cell? ⟨b, off + j, none⟩ = some (.string ps[j])
theorem Strs.below {w w' : World} {A : Option Addr} {ps : List ByteArray} {B : Nat} (h : Strs w A ps) (hb : Below B w w') (hB : w.heap.size ≤ B) : Strs w' A ps := fun j hj => by
  obtain ⟨b, off, ha, hlt, h1⟩ := h j hj
  have := hb.size
  exact ⟨b, off, ha, by omega, (hb.cell (p := ⟨b, _, none⟩) (Nat.lt_of_lt_of_le hlt hB)).trans h1⟩
def datas (ps : List ByteArray) : List (List UInt8) := ps.map fun b => b.data.toList
theorem joinL_next (ps : List ByteArray) (k : Nat) (h : k < ps.length) : joinL (datas (ps.take (k + 1))) = joinL (datas (ps.take k)) ++ addJ (joinL (datas (ps.take k))).getLast? ps[k].data.toList := by
  have e : datas (ps.take (k + 1)) = datas (ps.take k) ++ [ps[k].data.toList] := by
    rw [List.take_succ_eq_append_getElem h]
    unfold datas
    rw [List.map_append]
    rfl
  rw [e, joinL_snoc]
theorem addJ_none {p : List UInt8} (o : Option UInt8) (h : p = []) : addJ o p = [] := by rw [h]; rfl
theorem addJ_first {p : List UInt8} : addJ none p = p := by cases p <;> rfl
theorem addJ_gap {p : List UInt8} {c d : UInt8} (h0 : p.head? = some d) (h : runOnS c d = true) : addJ (some c) p = 32 :: p := by
  cases p with
  | nil => cases h0
  | cons x t => simp at h0; subst h0; simp [addJ, sepJ, h]
theorem addJ_tight {p : List UInt8} {c d : UInt8} (h0 : p.head? = some d) (h : runOnS c d = false) : addJ (some c) p = p := by
  cases p with
  | nil => cases h0
  | cons x t => simp at h0; subst h0; simp [addJ, sepJ, h]
theorem head_byte (s : ByteArray) (h : 0 < s.size) : s.data.toList.head? = some s[0] := by
  have := drop_cons s 0 h
  rw [List.drop_zero] at this
  rw [this]
  rfl
theorem last_byte (s : ByteArray) (m : Nat) (h : s.size = m + 1) : s.data.toList.getLast? = some (s[m]'(by omega)) := by
  have e := take_snoc s m (by omega)
  rw [List.take_of_length_le (by simp; omega)] at e
  rw [e, List.getLast?_append]
  rfl
theorem run_b (c d : UInt8) (b : Bool) (w : World) (h : runOnS c d = b) : Calls Tryz.prog 31 #[.int .u8 (c.toNat : Int), .int .u8 (d.toNat : Int)] w fun e w' => e = .returned (.bool b) ∧ w = w' := by
  subst h
  unfold runOnS
  by_cases h1 : regularS c = true
  · have HR1 := Lib.hid h1
    rw [h1]
    clear h1
    go_enter Tryz.func31, Tryz.ntmps31
    go_wp2_with fail
    refine ((HR1.out ▸ regular_any c _ : Calls Tryz.prog 51 #[.int .u8 (c.toNat : Int)] _ fun e w' => e = .returned (.bool true) ∧ _ = w')).mono ?_
    rintro e w' ⟨rfl, rfl⟩
    go_wp2_with fail
    refine (regular_any d _).mono ?_
    rintro e w' ⟨rfl, rfl⟩
    go_wp2_with fail
    go_ret
    exact ⟨by simp, rfl⟩
  · have h1' : regularS c = false := Bool.eq_false_iff.2 h1
    have HR1 := Lib.hid h1'
    rw [h1']
    clear h1 h1'
    by_cases h2 : ((c.toNat : Int) == 47) = true
    · have e47 : (c == 47) = true := by have := byte_is (c := c) (n := 47) (by decide) h2; rw [this]; rfl
      rw [e47]
      clear e47
      go_enter Tryz.func31, Tryz.ntmps31
      go_wp2_with fail
      refine ((HR1.out ▸ regular_any c _ : Calls Tryz.prog 51 #[.int .u8 (c.toNat : Int)] _ fun e w' => e = .returned (.bool false) ∧ _ = w')).mono ?_
      rintro e w' ⟨rfl, rfl⟩
      go_wp2_with fail
      refine (regular_any d _).mono ?_
      rintro e w' ⟨rfl, rfl⟩
      go_wp2_with fail
      go_ret
      exact ⟨by simp, rfl⟩
    · have h2' : ((c.toNat : Int) == 47) = false := Bool.eq_false_iff.2 h2
      have e47 : (c == 47) = false := by
        rw [beq_eq_false_iff_ne]
        rintro rfl
        exact h2 rfl
      rw [e47]
      clear e47 h2
      go_enter Tryz.func31, Tryz.ntmps31
      go_wp2_with fail
      refine ((HR1.out ▸ regular_any c _ : Calls Tryz.prog 51 #[.int .u8 (c.toNat : Int)] _ fun e w' => e = .returned (.bool false) ∧ _ = w')).mono ?_
      rintro e w' ⟨rfl, rfl⟩
      go_wp2_with fail
      go_ret
      exact ⟨by simp, rfl⟩
theorem run_q (c d : UInt8) (b : Bool) (w : World) (h : runOnS c d = b) : Calls Tryz.prog 31 #[.int .u8 (c.toNat : Int), .int .u8 (d.toNat : Int)] w fun e w' => e = .returned (.bool b) ∧ w' = w :=
  (run_b c d b w h).mono fun _ _ ⟨h1, h2⟩ => ⟨h1, h2.symm⟩
theorem empty_str {p : ByteArray} (h : p.size = 0) : p.toList.isEmpty = true ∧ p.data.toList = [] := by
  have : p.data.toList = [] := List.eq_nil_of_length_eq_zero (by rw [size_len]; exact h)
  rw [Lib.toList_data, this]
  exact ⟨rfl, rfl⟩
theorem some_str {p : ByteArray} (h : 0 < p.size) : p.toList.isEmpty = false := by
  rw [Lib.toList_data, List.isEmpty_eq_false_iff]
  intro e
  have := size_len p
  rw [e] at this
  simp at this
  omega

set_option maxRecDepth 100000 in
set_option maxHeartbeats 8000000 in
theorem plnJoin_any (A0 : Option Addr) (C0 : Nat) (ps : List ByteArray) (w : World) (hps : Strs w A0 ps) (hn : ps.length ≤ 1000) (hsz : ∀ p ∈ ps, p.size ≤ 20000) :
    Calls Tryz.prog 13 #[.slice A0 ps.length C0] w fun e w' => e = .returned (.string (bOf (joinL (datas ps)))) ∧ Below w.heap.size w w' := by
  obtain ⟨i5, hi, hz0, hz1, hz2⟩ := info_parts info5
  have HPS := Lib.hid hps
  have HSZ := Lib.hid hsz
  clear hps hsz
  go_enter Tryz.func13, Tryz.ntmps13
  go_wp2_with fail
  go_loopw [3, 8] (fun v i wr => ∃ (k : Nat) (l : List UInt8) (A : Option Addr) (C : Nat), k ≤ ps.length ∧ i = .int .i64 k ∧ v = .slice A l.length C ∧ Hid (l = joinL (datas (ps.take k))) ∧ l.length ≤ 20001 * k ∧ wr.ownsRow w.heap.size 5 1 (.slice A l.length C) l.length (cellsOf l) ∧ Below w.heap.size w wr) (fun _ i _ => ps.length - (intOf i).toNat)
  case atStart => exact ⟨0, [], none, 0, by omega, rfl, rfl, Lib.hid rfl, by simp, World.ownsRow_nil _ _ _ _, Below.refl _ _⟩
  case round =>
    obtain ⟨k, l, A, C, hk, rfl, rfl, hl, hll, hown, hb⟩ := hrel
    have HO := Lib.hid hown
    have HB := Lib.hid hb
    have hbs := hb.size
    clear hown hb
    by_cases hlt : k < ps.length
    · have k0 : (0 : Int) ≤ (k : Int) := by omega
      have k1 : (k : Int) < (ps.length : Int) := by omega
      obtain ⟨b0, off, hA, hbl, hcell⟩ := HPS.out k hlt
      subst hA
      have hpz := HSZ.out ps[k] (List.getElem_mem hlt)
      have HN := Lib.hid (joinL_next ps k hlt)
      obtain ⟨p, hp⟩ : ∃ p, ps[k] = p := ⟨_, rfl⟩
      rw [hp] at hpz HN hcell
      rw [← hl.out] at HN
      have c0 : wr.cell? ⟨b0, off + k, none⟩ = some (.string p) := (HB.out.cell (p := ⟨b0, _, none⟩) hbl).trans hcell
      clear hcell hp hl
      by_cases hp0 : p.size = 0
      · obtain ⟨e1, e2⟩ := empty_str hp0
        have HE : Hid (joinL (datas (ps.take (k + 1))) = l) := Lib.hid (by rw [HN.out, addJ_none _ e2, List.append_nil])
        clear e2 hp0
        go_wp2_with fail
        go_roundw
        case rel => exact ⟨k + 1, l, A, C, by omega, by go_num, rfl, Lib.hid HE.out.symm, by omega, HO.out, HB.out⟩
        case measure => simp [intOf]; omega
      · have hp1 : 0 < p.size := by omega
        have e1 := some_str hp1
        obtain ⟨d, hd⟩ : ∃ d, p[0] = d := ⟨_, rfl⟩
        have HH : Hid (p.data.toList.head? = some d) := Lib.hid (by rw [head_byte p hp1, hd])
        by_cases hl0 : l.length = 0
        · have hl1 : l = [] := List.eq_nil_of_length_eq_zero hl0
          subst hl1
          have HE : Hid (joinL (datas (ps.take (k + 1))) = p.data.toList) := Lib.hid (by rw [HN.out]; exact addJ_first)
          clear hl0 hd
          go_wp2_with fail
          go_quiet (fail)
          have ho : (wr.drewN nq).ownsRow w.heap.size 5 1 (.slice A [].length C) ([] : List UInt8).length (cellsOf []) := HO.out
          go_wp2_with (at_builtin; refine wpList_append_string_at _ rfl _ _ _ _ rfl w.heap.size 5 i5 Tryz.underlying45 Tryz.underlying9 hi hz0 hz1 hz2 _ _ _ rfl ho p rfl (by unfold maxLen; simp; omega) (by simp; omega) (by simpa using hbs) ?_)
          intro v4 w4 hown4 hgrow4 hat4
          intros
          obtain ⟨A4, C4, rfl⟩ := own_form hown4
          have HB4 := Lib.hid ((below_drewN HB.out nq).grown hgrow4 hbs (fun g h => (HO.out.lt g h).1) : Below w.heap.size w w4)
          have HO4 : Hid (w4.ownsRow w.heap.size 5 1 (.slice A4 p.data.toList.length C4) p.data.toList.length (cellsOf p.data.toList)) := Lib.hid (by
            have := hown4
            rw [str_cells] at this
            simpa [cellsOf] using this)
          clear hown4 hgrow4 hat4 ho
          go_wp2_with fail
          go_roundw
          case rel => exact ⟨k + 1, p.data.toList, A4, C4, by omega, by go_num, by simp, HE.out ▸ Lib.hid rfl, by rw [size_len]; omega, HO4.out, HB4.out⟩
          case measure => simp [intOf]; omega
        · obtain ⟨m, hm⟩ : ∃ m, l.length = m + 1 := ⟨l.length - 1, by omega⟩
          obtain ⟨c, hc⟩ : ∃ c, l.getLast? = some c := ⟨_, List.getLast?_eq_some_getLast (by rintro rfl; simp at hl0)⟩
          have hcm : l[m]? = some c := by rw [List.getLast?_eq_getElem?, hm] at hc; exact hc
          obtain ⟨b, hb⟩ : ∃ b, runOnS c d = b := ⟨_, rfl⟩
          obtain ⟨g, cp, hv, _⟩ := HO.out.form (by omega)
          injection hv with hv1 hv2 hv3
          subst hv1
          have hcl : wr.cell? ⟨g, m, none⟩ = some (.int .u8 (c.toNat : Int)) := by
            have := HO.out.cells (g := g) rfl m (.int .u8 (c.toNat : Int)) (by unfold cellsOf; rw [List.getElem?_map, hcm]; rfl)
            by_cases hm0 : m = 0
            · subst hm0; simpa [Addr.add] using this
            · simpa [Addr.add, hm0] using this
          have m0 : (l.length : Int) - 1 = (m : Int) := by omega
          have m1 : IntKind.i64.wrap (m : Int) = (m : Int) := IntWalk.i64_in _ (by omega)
          have m2 : (m : Int) < (l.length : Int) := by omega
          have l1 : 0 < l.length := by omega
          have HRB := Lib.hid hb
          cases b with
          | true =>
            have HE : Hid (joinL (datas (ps.take (k + 1))) = (l ++ [32]) ++ p.data.toList) := Lib.hid (by rw [HN.out, hc, addJ_gap HH.out hb]; simp)
            clear hb hc hcm hl0 hm hv2 hv3
            go_wp2_with fail
            go_quiet ((go_at_call 31; exact Calls.quiet_of_same (run_q c d true _ HRB.out)))
            have ho : (wr.drewN nq).ownsRow w.heap.size 5 1 (.slice (some ⟨g, 0, none⟩) l.length C) l.length (cellsOf l) := HO.out
            have HO1 := Lib.hid ho
            clear ho hcl m0 m1 m2
            go_wp2_with (first | (at_builtin; refine wpList_append_own _ rfl _ _ 45 rfl w.heap.size 5 i5 (.int .u8 0) 1 1 Tryz.underlying45 hi hz0 hz1 hz2 rfl (by decide) _ _ _ rfl (HO1.out.alloc _) ⟨wr.heap.size, 0, none⟩ 1 1 [.int .u8 32] rfl rfl (World.news_of_block (heap_alloc_new (wr.drewN nq) _)) (by simp [Value.oneCell']) (by unfold maxLen; omega) (by omega) (by simp; omega) ?_))
            intro v2 w2 hown2 hgrow2
            intros
            obtain ⟨A2, C2, rfl⟩ := own_form hown2
            have HO2 := Lib.hid hown2
            have hbel : Below w.heap.size w w2 := ((below_drewN HB.out nq).alloc hbs _).grown hgrow2 (by simp; omega) (fun g h => (HO.out.lt g h).1)
            have HB2 := Lib.hid hbel
            have hbs2 := hbel.size
            clear hown2 hgrow2 hbel
            go_wp2_with (at_builtin; refine wpList_append_string_at _ rfl _ _ _ _ rfl w.heap.size 5 i5 Tryz.underlying45 Tryz.underlying9 hi hz0 hz1 hz2 _ _ _ rfl HO2.out p rfl (by unfold maxLen; omega) (by omega) hbs2 ?_)
            intro v4 w4 hown4 hgrow4 hat4
            intros
            obtain ⟨A4, C4, rfl⟩ := own_form hown4
            have HB4 := Lib.hid (HB2.out.grown hgrow4 hbs2 (fun g h => (HO2.out.lt g h).1) : Below w.heap.size w w4)
            have HO4 : Hid (w4.ownsRow w.heap.size 5 1 (.slice A4 ((l ++ [32]) ++ p.data.toList).length C4) ((l ++ [32]) ++ p.data.toList).length (cellsOf ((l ++ [32]) ++ p.data.toList))) := Lib.hid (by
              have := hown4
              rw [str_cells] at this
              rw [List.length_append, List.length_append, cellsOf_append, cellsOf_append, size_len, List.append_assoc]
              exact this)
            clear hown4 hgrow4 hat4
            go_wp2_with fail
            go_roundw
            case rel => exact ⟨k + 1, (l ++ [32]) ++ p.data.toList, A4, C4, by omega, by go_num, by rw [List.length_append, List.length_append, size_len]; rfl, HE.out ▸ Lib.hid rfl, by rw [List.length_append, List.length_append, size_len]; show l.length + 1 + p.size ≤ _; omega, HO4.out, HB4.out⟩
            case measure => simp [intOf]; omega
          | false =>
            have HE : Hid (joinL (datas (ps.take (k + 1))) = l ++ p.data.toList) := Lib.hid (by rw [HN.out, hc, addJ_tight HH.out hb])
            clear hb hc hcm hl0 hm hv2 hv3
            go_wp2_with fail
            go_quiet ((go_at_call 31; exact Calls.quiet_of_same (run_q c d false _ HRB.out)))
            have ho : (wr.drewN nq).ownsRow w.heap.size 5 1 (.slice (some ⟨g, 0, none⟩) l.length C) l.length (cellsOf l) := HO.out
            have HO1 := Lib.hid ho
            clear ho hcl m0 m1 m2
            go_wp2_with (at_builtin; refine wpList_append_string_at _ rfl _ _ _ _ rfl w.heap.size 5 i5 Tryz.underlying45 Tryz.underlying9 hi hz0 hz1 hz2 _ _ _ rfl HO1.out p rfl (by unfold maxLen; omega) (by omega) hbs ?_)
            intro v4 w4 hown4 hgrow4 hat4
            intros
            obtain ⟨A4, C4, rfl⟩ := own_form hown4
            have HB4 := Lib.hid ((below_drewN HB.out nq).grown hgrow4 hbs (fun g h => (HO1.out.lt g h).1) : Below w.heap.size w w4)
            have HO4 : Hid (w4.ownsRow w.heap.size 5 1 (.slice A4 (l ++ p.data.toList).length C4) (l ++ p.data.toList).length (cellsOf (l ++ p.data.toList))) := Lib.hid (by
              have := hown4
              rw [str_cells] at this
              rw [List.length_append, cellsOf_append, size_len]
              exact this)
            clear hown4 hgrow4 hat4
            go_wp2_with fail
            go_roundw
            case rel => exact ⟨k + 1, l ++ p.data.toList, A4, C4, by omega, by go_num, by rw [List.length_append, size_len], HE.out ▸ Lib.hid rfl, by rw [List.length_append, size_len]; omega, HO4.out, HB4.out⟩
            case measure => simp [intOf]; omega
    · have e : l = joinL (datas ps) := by rw [hl.out, List.take_of_length_le (by omega)]
      have hconv := run_string_of_own HO.out rfl
      have HE := Lib.hid e
      clear hl e
      go_wp2_with fail
      go_ret
      exact ⟨by rw [← HE.out]; rfl, HB.out⟩

end Go.Proofs.YtpngnekoocpncaaGreatDoor
namespace Go.Proofs.YtpngnekoocpncaaGreatDoor
open Go.RowKit Oct Fix Lex

theorem Strs.lit (w : World) (T : TypeId) (cs : Array Value) (ps : List ByteArray) (h : ∀ (j : Nat) (hj : j < ps.length), cs[j]? = some (.string ps[j])) : Strs (w.alloc (.cells cs T)) (some ⟨w.heap.size, 0, none⟩) ps := fun j hj =>
  ⟨w.heap.size, 0, rfl, by simp, by rw [Nat.zero_add, (Blk.new w T cs).cell j, h j hj]⟩
theorem Strs.none (w : World) : Strs w none [] := fun _ hj => absurd hj (Nat.not_lt_zero _)
theorem plv_1 (w : World) (ht : Tab10 w) : Calls Tryz.prog 6 #[.int .i64 (-7)] w fun e w' => e = .returned (.tuple #[.string ⟨#[45, 55]⟩, .int .i64 0]) ∧ Below w.heap.size w w' :=
  (plnInt_any (-7) w ht).mono fun e w' ⟨h1, h2⟩ => ⟨h1.trans (by kernel_rfl), h2⟩
theorem plv_2 (w : World) (ht : Tab10 w) : Calls Tryz.prog 6 #[.int .i64 2147483648] w fun e w' => e = .returned (.tuple #[.string ⟨#[]⟩, .int .i64 2]) ∧ Below w.heap.size w w' :=
  (plnInt_any 2147483648 w ht).mono fun e w' ⟨h1, h2⟩ => ⟨h1.trans (by kernel_rfl), h2⟩
theorem plv_3 (w : World) (ht : Tab10 w) : Calls Tryz.prog 7 #[.int .i64 (-2500)] w fun e w' => e = .returned (.tuple #[.string ⟨#[45, 48, 46, 50, 53]⟩, .int .i64 0]) ∧ Below w.heap.size w w' :=
  (plnReal_any (-2500) w ht).mono fun e w' ⟨h1, h2⟩ => ⟨h1.trans (by kernel_rfl), h2⟩
theorem plv_4 (w : World) (ht : Tab10 w) : Calls Tryz.prog 7 #[.int .i64 1073741825] w fun e w' => e = .returned (.tuple #[.string ⟨#[]⟩, .int .i64 2]) ∧ Below w.heap.size w w' :=
  (plnReal_any 1073741825 w ht).mono fun e w' ⟨h1, h2⟩ => ⟨h1.trans (by kernel_rfl), h2⟩
theorem plv_5 (w : World) : Calls Tryz.prog 8 #[.string ⟨#[97, 40, 98, 92, 10]⟩] w fun e w' => e = .returned (.tuple #[.string ⟨#[40, 97, 92, 40, 98, 92, 92, 92, 48, 49, 50, 41]⟩, .int .i64 0]) ∧ Below w.heap.size w w' :=
  (plnString_any ⟨#[97, 40, 98, 92, 10]⟩ w).mono fun e w' ⟨h1, h2⟩ => ⟨h1.trans (by kernel_rfl), h2⟩
theorem plv_6 (w : World) : Calls Tryz.prog 9 #[.string ⟨#[97, 98]⟩] w fun e w' => e = .returned (.tuple #[.string ⟨#[60, 54, 49, 54, 50, 62]⟩, .int .i64 0]) ∧ Below w.heap.size w w' :=
  (plnHex_any ⟨#[97, 98]⟩ w (by decide)).mono fun e w' ⟨h1, h2⟩ => ⟨h1.trans (by kernel_rfl), h2⟩
theorem plv_7 (w : World) : Calls Tryz.prog 10 #[.string ⟨#[65, 32, 66, 35]⟩] w fun e w' => e = .returned (.tuple #[.string ⟨#[47, 65, 35, 50, 48, 66, 35, 50, 51]⟩, .int .i64 0]) ∧ Below w.heap.size w w' :=
  (plnName_any ⟨#[65, 32, 66, 35]⟩ w (by decide)).mono fun e w' ⟨h1, h2⟩ => ⟨h1.trans (by kernel_rfl), h2⟩
theorem plv_8 (w : World) : Calls Tryz.prog 10 #[.string ⟨#[97, 0]⟩] w fun e w' => e = .returned (.tuple #[.string ⟨#[]⟩, .int .i64 3]) ∧ Below w.heap.size w w' :=
  (plnName_any ⟨#[97, 0]⟩ w (by decide)).mono fun e w' ⟨h1, h2⟩ => ⟨h1.trans (by kernel_rfl), h2⟩
theorem plv_9 (w : World) : Calls Tryz.prog 10 #[.string ⟨#[]⟩] w fun e w' => e = .returned (.tuple #[.string ⟨#[47]⟩, .int .i64 0]) ∧ Below w.heap.size w w' :=
  (plnName_any ⟨#[]⟩ w (by decide)).mono fun e w' ⟨h1, h2⟩ => ⟨h1.trans (by kernel_rfl), h2⟩
theorem plv_j1 (w : World) (T : TypeId) : Calls Tryz.prog 13 #[.slice (some ⟨w.heap.size, 0, none⟩) 6 6] (w.alloc (.cells #[.string ⟨#[49, 50]⟩, .string ⟨#[111, 98, 106]⟩, .string ⟨#[60, 60]⟩, .string ⟨#[47, 65]⟩, .string ⟨#[49]⟩, .string ⟨#[62, 62]⟩] T)) fun e w' => e = .returned (.string ⟨#[49, 50, 32, 111, 98, 106, 60, 60, 47, 65, 32, 49, 62, 62]⟩) ∧ Below w.heap.size w w' := by
  refine (plnJoin_any (some ⟨w.heap.size, 0, none⟩) 6 [⟨#[49, 50]⟩, ⟨#[111, 98, 106]⟩, ⟨#[60, 60]⟩, ⟨#[47, 65]⟩, ⟨#[49]⟩, ⟨#[62, 62]⟩] (w.alloc (.cells #[.string ⟨#[49, 50]⟩, .string ⟨#[111, 98, 106]⟩, .string ⟨#[60, 60]⟩, .string ⟨#[47, 65]⟩, .string ⟨#[49]⟩, .string ⟨#[62, 62]⟩] T)) (Strs.lit w T _ _ fun j hj => ?_) (by decide) (by decide)).mono fun e w' ⟨h1, h2⟩ => ⟨h1.trans (by kernel_rfl), ((Below.refl _ _).alloc (Nat.le_refl _) _).trans (h2.mono (by simp))⟩
  have hj : j < 6 := hj
  rcases (by omega : j = 0 ∨ j = 1 ∨ j = 2 ∨ j = 3 ∨ j = 4 ∨ j = 5) with rfl | rfl | rfl | rfl | rfl | rfl <;> rfl
theorem plv_j2 (w : World) (T : TypeId) : Calls Tryz.prog 13 #[.slice (some ⟨w.heap.size, 0, none⟩) 3 3] (w.alloc (.cells #[.string ⟨#[40, 97, 41]⟩, .string ⟨#[]⟩, .string ⟨#[55]⟩] T)) fun e w' => e = .returned (.string ⟨#[40, 97, 41, 55]⟩) ∧ Below w.heap.size w w' := by
  refine (plnJoin_any (some ⟨w.heap.size, 0, none⟩) 3 [⟨#[40, 97, 41]⟩, ⟨#[]⟩, ⟨#[55]⟩] (w.alloc (.cells #[.string ⟨#[40, 97, 41]⟩, .string ⟨#[]⟩, .string ⟨#[55]⟩] T)) (Strs.lit w T _ _ fun j hj => ?_) (by decide) (by decide)).mono fun e w' ⟨h1, h2⟩ => ⟨h1.trans (by kernel_rfl), ((Below.refl _ _).alloc (Nat.le_refl _) _).trans (h2.mono (by simp))⟩
  have hj : j < 3 := hj
  rcases (by omega : j = 0 ∨ j = 1 ∨ j = 2) with rfl | rfl | rfl <;> rfl
theorem plv_j3 (w : World) (T : TypeId) : Calls Tryz.prog 13 #[.slice (some ⟨w.heap.size, 0, none⟩) 2 2] (w.alloc (.cells #[.string ⟨#[47]⟩, .string ⟨#[55]⟩] T)) fun e w' => e = .returned (.string ⟨#[47, 32, 55]⟩) ∧ Below w.heap.size w w' := by
  refine (plnJoin_any (some ⟨w.heap.size, 0, none⟩) 2 [⟨#[47]⟩, ⟨#[55]⟩] (w.alloc (.cells #[.string ⟨#[47]⟩, .string ⟨#[55]⟩] T)) (Strs.lit w T _ _ fun j hj => ?_) (by decide) (by decide)).mono fun e w' ⟨h1, h2⟩ => ⟨h1.trans (by kernel_rfl), ((Below.refl _ _).alloc (Nat.le_refl _) _).trans (h2.mono (by simp))⟩
  have hj : j < 2 := hj
  rcases (by omega : j = 0 ∨ j = 1) with rfl | rfl <;> rfl
theorem plv_j4 (w : World) : Calls Tryz.prog 13 #[.slice none 0 0] w fun e w' => e = .returned (.string ⟨#[]⟩) ∧ Below w.heap.size w w' :=
  (plnJoin_any none 0 [] w (Strs.none w) (by decide) (fun _ h => by cases h)).mono fun e w' ⟨h1, h2⟩ => ⟨h1.trans (by kernel_rfl), h2⟩
theorem plv_p1 (w : World) (ht : Tab10 w) : Calls Tryz.prog 15 #[.int .i64 42, .int .i64 5] w fun e w' => e = .returned (.string ⟨#[48, 48, 48, 52, 50]⟩) ∧ Below w.heap.size w w' :=
  (plnPad_any 42 5 w (by decide) ht).mono fun e w' ⟨h1, h2⟩ => ⟨h1.trans (by kernel_rfl), h2⟩
theorem plv_p2 (w : World) (ht : Tab10 w) : Calls Tryz.prog 15 #[.int .i64 100000, .int .i64 5] w fun e w' => e = .returned (.string ⟨#[]⟩) ∧ Below w.heap.size w w' :=
  (plnPad_any 100000 5 w (by decide) ht).mono fun e w' ⟨h1, h2⟩ => ⟨h1.trans (by kernel_rfl), h2⟩
theorem plv_p3 (w : World) (ht : Tab10 w) : Calls Tryz.prog 15 #[.int .i64 (-1), .int .i64 5] w fun e w' => e = .returned (.string ⟨#[]⟩) ∧ Below w.heap.size w w' :=
  (plnPad_any (-1) 5 w (by decide) ht).mono fun e w' ⟨h1, h2⟩ => ⟨h1.trans (by kernel_rfl), h2⟩
theorem plv_p4 (w : World) (ht : Tab10 w) : Calls Tryz.prog 15 #[.int .i64 1, .int .i64 21] w fun e w' => e = .returned (.string ⟨#[]⟩) ∧ Below w.heap.size w w' :=
  (plnPad_any 1 21 w (by decide) ht).mono fun e w' ⟨h1, h2⟩ => ⟨h1.trans (by kernel_rfl), h2⟩

set_option maxRecDepth 100000 in
set_option maxHeartbeats 16000000 in
theorem plnLives_any (w : World) (ht : Tab10 w) : Calls Tryz.prog 5 #[] w fun e w' => e = .returned (.bool true) ∧ Below w.heap.size w w' := by
  have HT0 := Lib.hid ht
  have HB0 := Lib.hid (Below.refl w.heap.size w)
  clear ht
  go_enter Tryz.func5, Tryz.ntmps5
  go_wp2_with fail
  refine (plv_1 _ HT0.out).mono ?_
  rintro e w1 ⟨rfl, hb⟩
  have HB1 := Lib.hid (HB0.out.trans (hb.mono HB0.out.size))
  have HT1 := Lib.hid (tab10_below HT0.out HB1.out (Nat.le_refl _))
  clear hb
  go_wp2_with fail
  refine (plv_2 _ HT1.out).mono ?_
  rintro e w2 ⟨rfl, hb⟩
  have HB2 := Lib.hid (HB1.out.trans (hb.mono HB1.out.size))
  have HT2 := Lib.hid (tab10_below HT0.out HB2.out (Nat.le_refl _))
  clear hb
  go_wp2_with fail
  refine (plv_3 _ HT2.out).mono ?_
  rintro e w3 ⟨rfl, hb⟩
  have HB3 := Lib.hid (HB2.out.trans (hb.mono HB2.out.size))
  have HT3 := Lib.hid (tab10_below HT0.out HB3.out (Nat.le_refl _))
  clear hb
  go_wp2_with fail
  refine (plv_4 _ HT3.out).mono ?_
  rintro e w4 ⟨rfl, hb⟩
  have HB4 := Lib.hid (HB3.out.trans (hb.mono HB3.out.size))
  have HT4 := Lib.hid (tab10_below HT0.out HB4.out (Nat.le_refl _))
  clear hb
  go_wp2_with fail
  refine (plv_5 _).mono ?_
  rintro e w5 ⟨rfl, hb⟩
  have HB5 := Lib.hid (HB4.out.trans (hb.mono HB4.out.size))
  have HT5 := Lib.hid (tab10_below HT0.out HB5.out (Nat.le_refl _))
  clear hb
  go_wp2_with fail
  refine (plv_6 _).mono ?_
  rintro e w6 ⟨rfl, hb⟩
  have HB6 := Lib.hid (HB5.out.trans (hb.mono HB5.out.size))
  have HT6 := Lib.hid (tab10_below HT0.out HB6.out (Nat.le_refl _))
  clear hb
  go_wp2_with fail
  refine (plv_7 _).mono ?_
  rintro e w7 ⟨rfl, hb⟩
  have HB7 := Lib.hid (HB6.out.trans (hb.mono HB6.out.size))
  have HT7 := Lib.hid (tab10_below HT0.out HB7.out (Nat.le_refl _))
  clear hb
  go_wp2_with fail
  refine (plv_8 _).mono ?_
  rintro e w8 ⟨rfl, hb⟩
  have HB8 := Lib.hid (HB7.out.trans (hb.mono HB7.out.size))
  have HT8 := Lib.hid (tab10_below HT0.out HB8.out (Nat.le_refl _))
  clear hb
  go_wp2_with fail
  refine (plv_9 _).mono ?_
  rintro e w9 ⟨rfl, hb⟩
  have HB9 := Lib.hid (HB8.out.trans (hb.mono HB8.out.size))
  have HT9 := Lib.hid (tab10_below HT0.out HB9.out (Nat.le_refl _))
  clear hb
  go_wp2_with fail
  refine (plv_j1 _ _).mono ?_
  rintro e w10 ⟨rfl, hb⟩
  have HB10 := Lib.hid (HB9.out.trans (hb.mono HB9.out.size))
  have HT10 := Lib.hid (tab10_below HT0.out HB10.out (Nat.le_refl _))
  clear hb
  go_wp2_with fail
  refine (plv_j2 _ _).mono ?_
  rintro e w11 ⟨rfl, hb⟩
  have HB11 := Lib.hid (HB10.out.trans (hb.mono HB10.out.size))
  have HT11 := Lib.hid (tab10_below HT0.out HB11.out (Nat.le_refl _))
  clear hb
  go_wp2_with fail
  refine (plv_j3 _ _).mono ?_
  rintro e w12 ⟨rfl, hb⟩
  have HB12 := Lib.hid (HB11.out.trans (hb.mono HB11.out.size))
  have HT12 := Lib.hid (tab10_below HT0.out HB12.out (Nat.le_refl _))
  clear hb
  go_wp2_with fail
  refine (plv_j4 _).mono ?_
  rintro e w13 ⟨rfl, hb⟩
  have HB13 := Lib.hid (HB12.out.trans (hb.mono HB12.out.size))
  have HT13 := Lib.hid (tab10_below HT0.out HB13.out (Nat.le_refl _))
  clear hb
  go_wp2_with fail
  refine (plv_p1 _ HT13.out).mono ?_
  rintro e w14 ⟨rfl, hb⟩
  have HB14 := Lib.hid (HB13.out.trans (hb.mono HB13.out.size))
  have HT14 := Lib.hid (tab10_below HT0.out HB14.out (Nat.le_refl _))
  clear hb
  go_wp2_with fail
  refine (plv_p2 _ HT14.out).mono ?_
  rintro e w15 ⟨rfl, hb⟩
  have HB15 := Lib.hid (HB14.out.trans (hb.mono HB14.out.size))
  have HT15 := Lib.hid (tab10_below HT0.out HB15.out (Nat.le_refl _))
  clear hb
  go_wp2_with fail
  refine (plv_p3 _ HT15.out).mono ?_
  rintro e w16 ⟨rfl, hb⟩
  have HB16 := Lib.hid (HB15.out.trans (hb.mono HB15.out.size))
  have HT16 := Lib.hid (tab10_below HT0.out HB16.out (Nat.le_refl _))
  clear hb
  go_wp2_with fail
  refine (plv_p4 _ HT16.out).mono ?_
  rintro e w17 ⟨rfl, hb⟩
  have HB17 := Lib.hid (HB16.out.trans (hb.mono HB16.out.size))
  have HT17 := Lib.hid (tab10_below HT0.out HB17.out (Nat.le_refl _))
  clear hb
  go_wp2_with fail
  go_ret
  exact ⟨rfl, HB17.out⟩
end Go.Proofs.YtpngnekoocpncaaGreatDoor
