/-
  Lemmas and walks, joined: PlnJm, PlnJo.
-/
import Derived.Test.YtpngnekoocpncaaGreatDoorM13
import Derived.Test.YtpngnekoocpncaaGreatDoorM20
import Derived.Test.YtpngnekoocpncaaGreatDoorM18
import Derived.BigQuiet
import Derived.Deep.QuietTactic
import Derived.IntWalk
namespace Go.Proofs.YtpngnekoocpncaaGreatDoor.Lex
open Go.Proofs.YtpngnekoocpncaaGreatDoor.Oct Go.Proofs.YtpngnekoocpncaaGreatDoor.Fix

theorem join_split (xs ys : List (List UInt8)) : ∀ o, joinK o (xs ++ ys) = joinK o xs ++ joinK (lastJ o (joinK o xs)) ys := by
  induction xs with
  | nil => intro o; rfl
  | cons p xs ih =>
    intro o
    show addJ o p ++ joinK (lastJ o p) (xs ++ ys) = (addJ o p ++ joinK (lastJ o p) xs) ++ joinK (lastJ o (addJ o p ++ joinK (lastJ o p) xs)) ys
    rw [ih, last_append, last_add, List.append_assoc]
/-- Where the part k begins, with the space ahead of it; the space ahead of it. -/
def posJ (ps : List (List UInt8)) (k : Nat) : Nat := (joinL (ps.take k)).length
def gapJ (ps : List (List UInt8)) (k : Nat) : List UInt8 := match (ps.getD k []) with | [] => [] | d :: _ => sepJ (lastJ none (joinL (ps.take k))) d
theorem gap_short (ps : List (List UInt8)) (k : Nat) : gapJ ps k = [] ∨ gapJ ps k = [32] := by
  unfold gapJ
  split
  · exact .inl rfl
  · unfold sepJ
    split
    · exact .inl rfl
    · split
      · exact .inr rfl
      · exact .inl rfl
theorem add_gap {ps : List (List UInt8)} {k : Nat} (h : k < ps.length) : addJ (lastJ none (joinL (ps.take k))) ps[k] = gapJ ps k ++ ps[k] := by
  unfold gapJ
  rw [List.getD_eq_getElem?_getD, List.getElem?_eq_getElem h]
  cases hp : ps[k] with
  | nil => rfl
  | cons d t => rfl
theorem pos_next {ps : List (List UInt8)} {k : Nat} (h : k < ps.length) : joinL (ps.take (k + 1)) = joinL (ps.take k) ++ (gapJ ps k ++ ps[k]) ∧ posJ ps (k + 1) = posJ ps k + (gapJ ps k).length + ps[k].length := by
  have e : joinL (ps.take (k + 1)) = joinL (ps.take k) ++ (gapJ ps k ++ ps[k]) := by
    rw [List.take_succ_eq_append_getElem h]
    unfold joinL
    rw [join_snoc]
    exact congrArg _ (add_gap h)
  refine ⟨e, ?_⟩
  unfold posJ
  rw [e, List.length_append, List.length_append]
  omega
theorem join_at {ps : List (List UInt8)} {k : Nat} (h : k < ps.length) : ∃ r, joinL ps = joinL (ps.take k) ++ (gapJ ps k ++ (ps[k] ++ r)) := by
  refine ⟨joinK (lastJ none (joinL (ps.take (k + 1)))) (ps.drop (k + 1)), ?_⟩
  have e := join_split (ps.take (k + 1)) (ps.drop (k + 1)) none
  rw [List.take_append_drop] at e
  show joinK none ps = _
  rw [e]
  unfold joinL
  generalize joinK (lastJ none (joinK none (ps.take (k + 1)))) (ps.drop (k + 1)) = X
  have := (pos_next h).1
  unfold joinL at this
  rw [this]
  simp
theorem toks_at (ps : List (List UInt8)) : ∀ (k : Nat) (a : Nat) (o : Option UInt8), k < ps.length → (toksJ a o ps)[k]? = some (tkOf (a + (joinK o (ps.take k)).length + ((addJ (lastJ o (joinK o (ps.take k))) (ps.getD k [])).length - (ps.getD k []).length)) (tokR (ps.getD k []))) := by
  induction ps with
  | nil => intro k a o h; simp at h
  | cons p ps ih =>
    intro k a o h
    cases k with
    | zero =>
      show some (tkOf (a + ((addJ o p).length - p.length)) (tokR p)) = some (tkOf (a + 0 + ((addJ (lastJ o []) p).length - p.length)) (tokR p))
      rfl
    | succ k =>
      have := ih k (a + (addJ o p).length) (lastJ o p) (by simp at h; omega)
      show (toksJ (a + (addJ o p).length) (lastJ o p) ps)[k]? = _
      rw [this]
      show some (tkOf (a + (addJ o p).length + (joinK (lastJ o p) (ps.take k)).length + _) _) = some (tkOf (a + (addJ o p ++ joinK (lastJ o p) (ps.take k)).length + ((addJ (lastJ o (addJ o p ++ joinK (lastJ o p) (ps.take k))) (ps.getD k [])).length - _)) (tokR (ps.getD k [])))
      rw [last_append, last_add, List.length_append, Nat.add_assoc a]
      rfl
theorem toks_len (ps : List (List UInt8)) : ∀ (a : Nat) (o : Option UInt8), (toksJ a o ps).length = ps.length := by
  induction ps with
  | nil => intro a o; rfl
  | cons p ps ih => intro a o; show (toksJ _ _ ps).length + 1 = _; rw [ih]; rfl
/-- The token k of the joined parts: from behind its gap to the next. -/
theorem toks_get (ps : List (List UInt8)) (k : Nat) (h : k < ps.length) {R : TR} (hR : WholeT ps[k] R) : (toksJ 0 none ps)[k]? = some ⟨R.kind, ((posJ ps k + (gapJ ps k).length : Nat) : Int), ((posJ ps (k + 1) : Nat) : Int), R.num, R.txt⟩ := by
  rw [toks_at ps k 0 none h]
  have e : ps.getD k [] = ps[k] := by rw [List.getD_eq_getElem?_getD, List.getElem?_eq_getElem h]; rfl
  have ha := add_gap h
  unfold joinL at ha
  rw [e, ha, hR.2.1, (pos_next h).2]
  unfold tkOf
  rw [hR.2.2.2.2]
  unfold posJ joinL
  congr 2
  · rw [List.length_append]; omega
  · rw [List.length_append]; omega
theorem pos_all (ps : List (List UInt8)) : posJ ps ps.length = (joinL ps).length := by unfold posJ; rw [List.take_length]
def sumJ (ps : List (List UInt8)) : Nat := (ps.map List.length).sum
theorem sum_next {ps : List (List UInt8)} {k : Nat} (h : k < ps.length) : sumJ (ps.take (k + 1)) = sumJ (ps.take k) + ps[k].length := by
  unfold sumJ
  rw [List.take_succ_eq_append_getElem h, List.map_append, List.sum_append]
  simp
theorem sum_le (ps : List (List UInt8)) : ∀ k, k ≤ ps.length → sumJ (ps.take k) ≤ posJ ps k := by
  intro k
  induction k with
  | zero => intro _; exact Nat.le_refl _
  | succ k ih =>
    intro h
    have := ih (by omega)
    rw [sum_next (by omega), (pos_next (by omega)).2]
    omega
theorem pos_le (ps : List (List UInt8)) (k : Nat) (_h : k ≤ ps.length) : posJ ps k ≤ (joinL ps).length := by
  have e := join_split (ps.take k) (ps.drop k) none
  rw [List.take_append_drop] at e
  show (joinL (ps.take k)).length ≤ (joinK none ps).length
  rw [e, List.length_append]
  exact Nat.le_add_right _ _
theorem join_short (m : Nat) (ps : List (List UInt8)) (o : Option UInt8) (h : ∀ p ∈ ps, p.length ≤ m) : (joinK o ps).length ≤ (m + 1) * ps.length := by
  induction ps generalizing o with
  | nil => exact Nat.zero_le _
  | cons p ps ih =>
    have h1 := h p (by simp)
    have h2 := add_len o p
    have h3 := ih (lastJ o p) (fun q hq => h q (by simp [hq]))
    show (addJ o p ++ joinK (lastJ o p) ps).length ≤ _
    rw [List.length_append, List.length_cons, Nat.mul_add]
    omega
end Go.Proofs.YtpngnekoocpncaaGreatDoor.Lex
namespace Go.Proofs.YtpngnekoocpncaaGreatDoor
open Go.RowKit Oct Fix Lex

theorem tok_row (l : List Tk) (k m : Nat) (hk : k < l.length) (hm : m < 5) : (rowCells l)[k * 5 + m]? = (tkCells l[k])[m]? := by
  induction l generalizing k with
  | nil => cases hk
  | cons t l ih =>
    have e : rowCells (t :: l) = tkCells t ++ rowCells l := by unfold rowCells; simp
    have ht : (tkCells t).length = 5 := rfl
    rw [e]
    cases k with
    | zero => rw [Nat.zero_mul, Nat.zero_add, List.getElem?_append_left (by omega)]; rfl
    | succ k =>
      rw [List.getElem?_append_right (by omega), ht, show (k + 1) * 5 + m - 5 = k * 5 + m from by omega]
      exact ih k (by simpa using hk)

/-- The next token of a part, as the walk needs it. -/
structure PartTok (p : ByteArray) where
  kd : Int
  a : Int
  t : Int
  v : Int
  x : ByteArray
  err : Int
  next : ∀ (W : World) (_ : MaxLenAt W), Calls Tryz.prog 12 #[.string p, .int .i64 0] W fun e w' => e = .returned (.tuple #[.agg #[.int .i64 kd, .int .i64 a, .int .i64 t, .int .i64 v, .string x], .int .i64 err]) ∧ Below W.heap.size W w'
  ways : (err ≠ 0) ∨ (err = 0 ∧ kd = 0) ∨ (err = 0 ∧ kd ≠ 0 ∧ a ≠ 0) ∨ (err = 0 ∧ kd ≠ 0 ∧ a = 0 ∧ t ≠ (p.size : Int)) ∨ (err = 0 ∧ kd ≠ 0 ∧ a = 0 ∧ t = (p.size : Int) ∧ ∃ R, WholeT p.data.toList R)
theorem partTok (p : ByteArray) (hp : p.size ≤ 100) : Nonempty (PartTok p) := by
  have hi : nxI p.data.toList 0 = nextI p.data.toList 0 := rfl
  have hR : nxR p.data.toList 0 = nextR p.data.toList 0 := by unfold nxR; rw [if_neg (by omega)]; rfl
  refine ⟨⟨_, _, _, _, _, _, fun W hm => lexNext_any p 0 W (by omega) hm, ?_⟩⟩
  rw [hi, hR]
  by_cases h1 : (nextR p.data.toList 0).err = 0
  · by_cases h2 : (nextR p.data.toList 0).kind = 0
    · exact .inr (.inl ⟨h1, h2⟩)
    · by_cases h3 : nextI p.data.toList 0 = 0
      · have hA : tA (nextI p.data.toList 0) (nextR p.data.toList 0) = 0 := by unfold tA; rw [if_pos h1, h3]; rfl
        have hT : tT (nextI p.data.toList 0) (nextR p.data.toList 0) = ((nextR p.data.toList 0).len : Int) := by unfold tT; rw [if_pos h1, h3, Nat.zero_add]
        by_cases h4 : (nextR p.data.toList 0).len = p.data.toList.length
        · refine .inr (.inr (.inr (.inr ⟨h1, h2, hA, ?_, _, whole_of h1 h2 h3 h4⟩)))
          rw [hT, h4, size_len]
        · refine .inr (.inr (.inr (.inl ⟨h1, h2, hA, ?_⟩)))
          rw [hT]
          rw [size_len] at h4
          omega
      · refine .inr (.inr (.inl ⟨h1, h2, ?_⟩))
        unfold tA
        rw [if_pos h1]
        omega
  · exact .inl h1
def AllEnd (n : Nat) (l : List Tk) (w : World) (e : Ending) (w' : World) : Prop :=
  ∃ (A : Option Addr) (C : Nat), e = .returned (.tuple #[.slice A n C, .agg #[.int .i64 0, .int .i64 0]]) ∧ w'.ownsRow w.heap.size 31 5 (.slice A n C) n (rowCells l) ∧ Below w.heap.size w w'
theorem all_parts (J : ByteArray) (ps : List (List UInt8)) (n : Nat) (w : World) (hm : MaxLenAt w) (hz : J.size ≤ 100000) (hn : n = ps.length) (hl : ps.length ≤ 1000) (hJ : J.data.toList = joinL ps) (hw : ∀ p ∈ ps, ∃ R, WholeT p R) :
    Calls Tryz.prog 14 #[.string J] w (AllEnd n (toksJ 0 none ps) w) := by
  subst hn
  have hr : uptoI J.data.toList 0 1048576 = (toksJ 0 none ps, 0, 0) := by
    unfold uptoI
    rw [if_neg (by omega), hJ]
    exact upto_joined ps _ hw (by show ps.length < 1048576; omega)
  refine (all_any J _ w hz hm hr).mono ?_
  rintro e w' ⟨A, C, he, hown, hb⟩
  simp only [toks_len] at he hown
  exact ⟨A, C, he, hown, hb⟩
theorem cut_mid {J : ByteArray} {a m r : List UInt8} {p q : Nat} (h : J.data.toList = a ++ (m ++ r)) (hp : p = a.length) (hq : q = p + m.length) : (J.extract p q).data.toList = m := by
  subst hp hq
  rw [Lib.extract_data, h, List.drop_left, Nat.add_sub_cancel_left, List.take_left]

theorem datas_get (ps : List ByteArray) (k : Nat) (h : k < (datas ps).length) : (datas ps)[k] = (ps[k]'(by unfold datas at h; simpa using h)).data.toList := by simp [datas]
/-- The parts are whole tokens. -/
def PartsOk (ps : List ByteArray) (k : Nat) : Prop := ∀ q (hq : q < ps.length), q < k → ps[q].size ≤ 100 ∧ 0 < ps[q].size ∧ ∃ R, WholeT ps[q].data.toList R

set_option maxRecDepth 100000 in
set_option maxHeartbeats 16000000 in
theorem joins_in (A : Option Addr) (C : Nat) (ps : List ByteArray) (w : World) (hw : PLive w) (hx : Strs w A ps) (h20 : ps.length ≤ 20) :
    Calls Tryz.prog 4 #[.slice A ps.length C] w fun e w' => e = .returned (.bool true) ∧ Below w.heap.size w w' := by
  have HL0 := Lib.hid hw
  have HX0 := Lib.hid hx
  clear hw hx
  go_enter Tryz.func4, Tryz.ntmps4
  go_wp2_with fail
  refine (plnLives_any _ HL0.out.2).mono ?_
  rintro e w1 ⟨rfl, hb⟩
  have HB1 := Lib.hid hb
  clear hb
  go_wp2_with fail
  go_loopw [3, 21] (fun nv iv wr => ∃ k total : Nat, k ≤ ps.length ∧ iv = .int .i64 (k : Int) ∧ nv = .int .i64 (total : Int) ∧ Hid (total = sumJ (datas (ps.take k)) ∧ PartsOk ps k) ∧ total ≤ 100 * k ∧ Below w.heap.size w wr) (fun _ iv _ => ps.length - (intOf iv).toNat)
  case atStart => exact ⟨0, 0, by omega, rfl, rfl, Lib.hid ⟨rfl, fun q hq h => absurd h (Nat.not_lt_zero _)⟩, by omega, HB1.out⟩
  case round =>
    clear HB1
    obtain ⟨k, total, hk, rfl, rfl, hinv, htot, hb⟩ := hrel
    have HB := Lib.hid hb
    have hbs := hb.size
    have HL := Lib.hid (HL0.out.below hb (Nat.le_refl _))
    clear hb
    by_cases hlt : k < ps.length
    · have k0 : (0 : Int) ≤ (k : Int) := by omega
      have k1 : (k : Int) < (ps.length : Int) := by omega
      obtain ⟨b0, off, hA, hbl, hcell⟩ := HX0.out k hlt
      subst hA
      have c0 : wr.cell? ⟨b0, off + k, none⟩ = some (.string ps[k]) := (HB.out.cell (p := ⟨b0, _, none⟩) hbl).trans hcell
      clear hcell
      have hsum := sum_next (ps := datas ps) (k := k) (by unfold datas; simpa using hlt)
      have edt : (datas ps)[k]'(by unfold datas; simpa using hlt) = ps[k].data.toList := by unfold datas; simp
      have etk : ∀ j, (datas ps).take j = datas (ps.take j) := fun j => by unfold datas; rw [List.map_take]
      rw [etk, etk, edt, size_len] at hsum
      obtain ⟨p, hp⟩ : ∃ p, ps[k] = p := ⟨_, rfl⟩
      have HP := Lib.hid hp
      rw [hp] at c0 hsum
      have HSM := Lib.hid hsum
      clear hp edt etk hsum
      by_cases hp0 : p.size = 0
      · obtain ⟨e1, e2⟩ := empty_str hp0
        clear e2 hp0
        go_wp2_with fail
        go_ret
        exact ⟨rfl, HB.out⟩
      · have e1 := some_str (p := p) (by omega)
        by_cases hp100 : 100 < p.size
        · clear hp0
          go_wp2_with fail
          go_ret
          exact ⟨rfl, HB.out⟩
        · obtain ⟨kd, a, t, v, x, err, next, ways⟩ := partTok p (by omega)
          have HNX := Lib.hid next
          have HWY := Lib.hid ways
          clear next ways
          have hp1 : ¬ 100 < (p.size : Int) := by omega
          have hp2 : 0 < p.size := by omega
          clear hp0
          go_wp2_with fail
          refine (HNX.out _ HL.out.1).mono ?_
          rintro e v1 ⟨rfl, hb⟩
          go_upto_region 12 with (fail)
          obtain ⟨w1, hw1⟩ : ∃ w1, v1.alloc (.cells #[.int .i64 kd, .int .i64 a, .int .i64 t, .int .i64 v, .string x] 31) = w1 := ⟨_, rfl⟩
          have hX : Blk w1 v1.heap.size 31 #[.int .i64 kd, .int .i64 a, .int .i64 t, .int .i64 v, .string x] := by rw [← hw1]; exact Blk.new _ _ _
          have HB2 := Lib.hid (show Below w.heap.size w w1 by rw [← hw1]; exact (HB.out.trans (hb.mono hbs)).alloc (Nat.le_trans hbs hb.size) _)
          rw [hw1]
          clear hw1 hb c0
          obtain ⟨g1, hg1⟩ : ∃ g1, v1.heap.size = g1 := ⟨_, rfl⟩
          rw [hg1] at hX
          simp only [hg1]
          clear hg1
          have c0 := hX.cell 0
          have c1 := hX.cell 1
          have c2 := hX.cell 2
          simp only [List.getElem?_toArray, List.getElem?_cons_zero, List.getElem?_cons_succ] at c0 c1 c2
          clear hX
          have ways := HWY.out
          clear HWY
          rcases ways with h1 | ⟨rfl, rfl⟩ | ⟨rfl, h2, h3⟩ | ⟨rfl, h2, rfl, h4⟩ | ⟨rfl, h2, rfl, rfl, hR⟩
          · have f1 : (err != 0) = true := by simpa using h1
            have f1' : (err == 0) = false := by simpa using h1
            clear h1
            go_wp2_with fail
            go_ret
            exact ⟨rfl, HB2.out⟩
          · go_wp2_with fail
            go_ret
            exact ⟨rfl, HB2.out⟩
          · have f2 : (kd == 0) = false := by simpa using h2
            have f3 : (a != 0) = true := by simpa using h3
            clear h2 h3
            go_wp2_with fail
            go_ret
            exact ⟨rfl, HB2.out⟩
          · have f2 : (kd == 0) = false := by simpa using h2
            have f4 : (t != (p.size : Int)) = true := by simpa using h4
            clear h2 h4
            go_wp2_with fail
            go_ret
            exact ⟨rfl, HB2.out⟩
          · have f2 : (kd == 0) = false := by simpa using h2
            have HN : Hid (total + p.size = sumJ (datas (ps.take (k + 1))) ∧ PartsOk ps (k + 1)) := Lib.hid ⟨by rw [HSM.out, hinv.out.1], fun q hq h => by
              by_cases e : q = k
              · subst e
                rw [HP.out]
                exact ⟨by omega, hp2, hR⟩
              · exact hinv.out.2 q hq (by omega)⟩
            clear h2 hR hinv
            go_wp2_with fail
            go_roundw
            case rel => exact ⟨k + 1, total + p.size, by omega, by go_num, by first | rfl | (push_cast; rfl), HN, by omega, HB2.out⟩
            case measure => simp [intOf]; omega
    · have ek : k = ps.length := by omega
      subst ek
      have hok := hinv.out.2
      have hsum := hinv.out.1
      rw [List.take_length] at hsum
      have hlen : (datas ps).length = ps.length := by unfold datas; simp
      have hWh : ∀ p ∈ datas ps, ∃ R, WholeT p R := fun p hp => by
        unfold datas at hp
        obtain ⟨b, hb, rfl⟩ := List.mem_map.1 hp
        obtain ⟨q, hq, rfl⟩ := List.getElem_of_mem hb
        exact (hok q hq hq).2.2
      have hjl : (joinL (datas ps)).length ≤ 101 * (datas ps).length := join_short 100 (datas ps) none (fun p hp => by
        unfold datas at hp
        obtain ⟨b, hb, rfl⟩ := List.mem_map.1 hp
        obtain ⟨q, hq, rfl⟩ := List.getElem_of_mem hb
        rw [size_len]
        exact (hok q hq hq).1)
      have hj := fun W (hx : Strs W A ps) => plnJoin_any A C ps W hx (by omega) (fun p hp => by
        obtain ⟨q, hq, rfl⟩ := List.getElem_of_mem hp
        have := (hok q hq hq).1
        omega)
      have hle := sum_le (datas ps) (datas ps).length (Nat.le_refl _)
      rw [pos_all, List.take_length] at hle
      obtain ⟨J, hJ⟩ : ∃ J, bOf (joinL (datas ps)) = J := ⟨_, rfl⟩
      have hJd : J.data.toList = joinL (datas ps) := by rw [← hJ]; rfl
      have hJs : J.size = (joinL (datas ps)).length := by rw [← hJ]; rfl
      simp only [hJ] at hj
      have hJz : J.size ≤ 2020 := by rw [hJs]; omega
      have htJ : decide (J.size < total) = false := decide_eq_false (by rw [hJs]; omega)
      have HJ := Lib.hid hj
      have HAl := Lib.hid (fun W hm => all_parts J (datas ps) ps.length W hm (by omega) hlen.symm (by omega) hJd hWh)
      have HJd := Lib.hid hJd
      have HJs := Lib.hid hJs
      have HWh := Lib.hid hWh
      have HLn := Lib.hid hlen
      clear hj hJ hJd hJs hjl hle hWh hok hsum hinv hlen
      go_wp2_with fail
      refine (HJ.out _ (HX0.out.below HB.out (Nat.le_refl _))).mono ?_
      rintro e w2 ⟨rfl, hb⟩
      have HB2 := Lib.hid (HB.out.trans (hb.mono hbs))
      have HL2 := Lib.hid (HL0.out.below HB2.out (Nat.le_refl _))
      clear hb
      go_wp2_with fail
      refine (HAl.out _ HL2.out.1).mono ?_
      rintro e v3 ⟨A3, C3, rfl, hown, hb⟩
      go_upto_region 18 with (fail)
      obtain ⟨w3, hw3⟩ : ∃ w3, v3.alloc (.cells #[.int .i64 0, .int .i64 0] 37) = w3 := ⟨_, rfl⟩
      have hF : Blk w3 v3.heap.size 37 #[.int .i64 0, .int .i64 0] := by rw [← hw3]; exact Blk.new _ _ _
      have HB3 := Lib.hid (show Below w.heap.size w w3 by rw [← hw3]; exact (HB2.out.trans (hb.mono HB2.out.size)).alloc (Nat.le_trans HB2.out.size hb.size) _)
      have HO3 := Lib.hid (show w3.ownsRow w2.heap.size 31 5 (.slice A3 ps.length C3) ps.length (rowCells (toksJ 0 none (datas ps))) by rw [← hw3]; exact hown.alloc _)
      rw [hw3]
      clear hw3 hb hown
      obtain ⟨g3, hg3⟩ : ∃ g3, v3.heap.size = g3 := ⟨_, rfl⟩
      rw [hg3] at hF
      simp only [hg3]
      clear hg3
      have q0 := hF.cell 0
      have q1 := hF.cell 1
      simp only [List.getElem?_toArray, List.getElem?_cons_zero, List.getElem?_cons_succ] at q0 q1
      clear hF
      go_wp2_with fail
      go_loopw [11, 86] (fun pv iv wr => ∃ k : Nat, k ≤ ps.length ∧ iv = .int .i64 (k : Int) ∧ pv = .int .i64 ((posJ (datas ps) k : Nat) : Int) ∧ Below w.heap.size w wr ∧ wr.ownsRow w2.heap.size 31 5 (.slice A3 ps.length C3) ps.length (rowCells (toksJ 0 none (datas ps)))) (fun _ iv _ => ps.length - (intOf iv).toNat)
      case atStart => exact ⟨0, by omega, rfl, rfl, HB3.out, HO3.out⟩
      case round =>
        clear HO3 HB3 HB2 HB q0 q1
        obtain ⟨k, hk, rfl, rfl, hb, hown⟩ := hrel
        have HB := Lib.hid hb
        have hbs := hb.size
        have HO := Lib.hid hown
        clear hb hown
        by_cases hlt : k < ps.length
        · have k0 : (0 : Int) ≤ (k : Int) := by omega
          have k1 : (k : Int) < (ps.length : Int) := by omega
          have hkd : k < (datas ps).length := by rw [HLn.out]; exact hlt
          obtain ⟨R, hR⟩ := HWh.out _ (List.getElem_mem hkd)
          have htok := toks_get (datas ps) k hkd hR
          have hkt : k < (toksJ 0 none (datas ps)).length := by rw [toks_len]; exact hkd
          have hpos := (pos_next hkd).2
          obtain ⟨r, hr⟩ := join_at hkd
          have hle := pos_le (datas ps) (k + 1) (by omega)
          have edt := datas_get ps k hkd
          rw [edt] at hpos hr
          rw [← HJd.out] at hr
          rw [← HJs.out] at hle
          obtain ⟨b0, off, hA, hbl, hcell⟩ := HX0.out k hlt
          subst hA
          obtain ⟨P, hP⟩ : ∃ P, ps[k] = P := ⟨_, rfl⟩
          rw [hP] at hcell hr hpos
          have hx1 : J.extract (posJ (datas ps) k) (posJ (datas ps) k + (gapJ (datas ps) k).length) = bOf (gapJ (datas ps) k) := bytes_eq (cut_mid (a := joinL ((datas ps).take k)) hr rfl rfl)
          have hx2 : J.extract (posJ (datas ps) k + (gapJ (datas ps) k).length) (posJ (datas ps) (k + 1)) = P := bytes_eq (cut_mid (a := joinL ((datas ps).take k) ++ gapJ (datas ps) k) (m := P.data.toList) (r := r) (by rw [hr]; simp) (by rw [List.length_append]; rfl) hpos)
          obtain ⟨g1, c1, e1, _⟩ := HO.out.form (by omega)
          injection e1 with e1 _ e3
          subst e1 e3
          have x := fun j (hj : j < 5) => (HO.out.cellAt (k * 5 + j) (by omega)).trans (tok_row (toksJ 0 none (datas ps)) k j hkt hj)
          have x0 := x 0 (by omega)
          have x1 := x 1 (by omega)
          have x2 := x 2 (by omega)
          have x3 := x 3 (by omega)
          have x4 := x 4 (by omega)
          have etk : (toksJ 0 none (datas ps))[k] = ⟨R.kind, ((posJ (datas ps) k + (gapJ (datas ps) k).length : Nat) : Int), ((posJ (datas ps) (k + 1) : Nat) : Int), R.num, R.txt⟩ := by
            rw [List.getElem?_eq_getElem hkt] at htok
            exact Option.some.inj htok
          rw [etk] at x0 x1 x2 x3 x4
          have hgap := gap_short (datas ps) k
          obtain ⟨p, hp⟩ : ∃ p, posJ (datas ps) k = p := ⟨_, rfl⟩
          obtain ⟨q, hq⟩ : ∃ q, posJ (datas ps) (k + 1) = q := ⟨_, rfl⟩
          obtain ⟨gp, hgp⟩ : ∃ gp, gapJ (datas ps) k = gp := ⟨_, rfl⟩
          have HQ := Lib.hid hq
          rw [hp, hgp] at x0 x1 x2 x3 x4 hx1 hx2 hpos
          rw [hq] at x0 x1 x2 x3 x4 hx2 hpos hle
          rw [hgp] at hgap
          rw [hp]
          unfold tkCells at x0 x1 x2 x3 x4
          simp only [List.getElem?_cons_zero, List.getElem?_cons_succ, Nat.add_zero] at x0 x1 x2 x3 x4
          clear x htok hr edt etk hp hq hgp hR hP hkt hkd
          obtain ⟨kd, hkd⟩ : ∃ kd, R.kind = kd := ⟨_, rfl⟩
          obtain ⟨nv, hnv⟩ : ∃ nv, R.num = nv := ⟨_, rfl⟩
          obtain ⟨tx, htx⟩ : ∃ tx : ByteArray, (⟨R.txt.toArray⟩ : ByteArray) = tx := ⟨_, rfl⟩
          rw [hkd] at x0
          rw [hnv] at x3
          rw [htx] at x4
          clear hkd hnv htx
          obtain ⟨a, ha⟩ : ∃ a, p + gp.length = a := ⟨_, rfl⟩
          rw [ha] at x1 hx1 hx2 hpos
          have a0 : (p : Int) ≤ (a : Int) := by omega
          have a1 : (a : Int) ≤ (q : Int) := by omega
          have a2 : (q : Int) ≤ (J.size : Int) := by omega
          have a3 : p ≤ a := by omega
          have a4 : a ≤ q := by omega
          have a5 : q ≤ J.size := by omega
          have HCell := Lib.hid hcell
          have HBl := Lib.hid hbl
          have HX1 := Lib.hid hx1
          have HX2 := Lib.hid hx2
          have HGp := Lib.hid hgap
          have HA := Lib.hid ha
          clear hcell hbl hx1 hx2 hgap ha hpos hle
          go_upto_region 24 with (fail)
          obtain ⟨w4, hw4⟩ : ∃ w4, wr.alloc (.cells #[.int .i64 kd, .int .i64 (a : Int), .int .i64 (q : Int), .int .i64 nv, .string tx] 31) = w4 := ⟨_, rfl⟩
          have hX : Blk w4 wr.heap.size 31 #[.int .i64 kd, .int .i64 (a : Int), .int .i64 (q : Int), .int .i64 nv, .string tx] := by rw [← hw4]; exact Blk.new _ _ _
          have HB4 := Lib.hid (show Below w.heap.size w w4 by rw [← hw4]; exact HB.out.alloc hbs _)
          have HO4 := Lib.hid (show w4.ownsRow w2.heap.size 31 5 (.slice (some ⟨g1, 0, none⟩) ps.length C3) ps.length (rowCells (toksJ 0 none (datas ps))) by rw [← hw4]; exact HO.out.alloc _)
          have cc : w4.cell? ⟨b0, off + k, none⟩ = some (.string P) := (HB4.out.cell (p := ⟨b0, _, none⟩) HBl.out).trans HCell.out
          rw [hw4]
          clear hw4 x0 x1 x2 x3 x4
          obtain ⟨g2, hg2⟩ : ∃ g2, wr.heap.size = g2 := ⟨_, rfl⟩
          rw [hg2] at hX
          simp only [hg2]
          clear hg2
          have y1 := hX.cell 1
          have y2 := hX.cell 2
          simp only [List.getElem?_toArray, List.getElem?_cons_zero, List.getElem?_cons_succ] at y1 y2
          have HXc := Lib.hid hX
          clear hX
          have hx1 := HX1.out
          have hx2 := HX2.out
          rcases HGp.out with rfl | rfl
          · have ea : a = p := by have := HA.out; simpa using this.symm
            subst ea
            clear hx1
            go_wp2_with fail
            go_quiet (fail)
            go_wp2_with fail
            go_roundw
            case rel => exact ⟨k + 1, by omega, by go_num, by rw [HQ.out], below_drewN HB4.out _, HO4.out⟩
            case measure => simp [intOf]; omega
          · have lt : (p : Int) < (a : Int) := by have := HA.out; simp at this; omega
            have hx1' : J.extract p a = ⟨#[32]⟩ := hx1
            clear hx1
            go_wp2_with fail
            go_quiet (fail)
            go_wp2_with fail
            go_roundw
            case rel => exact ⟨k + 1, by omega, by go_num, by rw [HQ.out], below_drewN HB4.out _, HO4.out⟩
            case measure => simp [intOf]; omega
        · have ek : k = ps.length := by omega
          have hpj : ((posJ (datas ps) k : Nat) : Int) = (J.size : Int) := by
            rw [HJs.out, ek, ← HLn.out, pos_all]
          rw [hpj]
          clear hpj ek
          go_wp2_with fail
          go_ret
          exact ⟨by simp, HB.out⟩

theorem joinsWalk (A : Option Addr) (C : Nat) (ps : List ByteArray) (w : World) (hw : PLive w) (hx : Strs w A ps) :
    Calls Tryz.prog 4 #[.slice A ps.length C] w fun e w' => e = .returned (.bool true) ∧ Below w.heap.size w w' := by
  by_cases h : ps.length ≤ 20
  · exact joins_in A C ps w hw hx h
  · have HL0 := Lib.hid hw
    have h' : 20 < (ps.length : Int) := by omega
    clear hw h
    go_enter Tryz.func4, Tryz.ntmps4
    go_wp2_with fail
    refine (plnLives_any _ HL0.out.2).mono ?_
    rintro e w1 ⟨rfl, hb⟩
    go_wp2_with fail
    go_ret
    exact ⟨rfl, hb⟩
end Go.Proofs.YtpngnekoocpncaaGreatDoor
