/-
  ascii's Five.
-/
import Derived.Test.YthioafndepkhoaaAscK
import Derived.Test.YthioafndepkhoaaAscL
import Derived.Lib.BufferWrite
namespace Go.Proofs.Ythioafndepkhoaa
open Go.RowKit Oct Asc Go.Shelf
attribute [-go_sem] Builtin.append_

/-- 'copy(dst, s)', where s is a string: as much as fits. -/
theorem run_copy_part {P : Program} (w : World) (dT sT ty elem : TypeId) (g dLen dCap n : Nat) (s : ByteArray) (cur : Array Value) (t : TypeId)
    (hu : P.underlying dT = some (.slice elem)) (hs : (P.info? elem).map (·.size) = some 1) (hg : w.heap[g]? = some (.cells cur t (0, 0))) (hn : Nat.min s.size dLen = n) (hfit : n ≤ cur.size) :
    (Builtin.copy_ #[dT, sT] ty #[.slice (some ⟨g, 0, none⟩) dLen dCap, .string s]).run P w =
      .ok (goInt n) (w.setRow g (Lib.byteCells (s.data.toList.take n) ++ cur.toList.drop n).toArray) := by
  have hl : (s.data.toList.take n).length = n := by
    rw [List.length_take]
    have e : s.data.toList.length = s.size := by simp
    have h2 : n ≤ s.size := by rw [← hn]; exact Nat.min_le_left _ _
    omega
  have hlen : (Lib.byteCells (s.data.toList.take n)).length = n := by rw [Lib.byteCells_length, hl]
  have hst := run_storeCells_at P g 0 t (Lib.byteCells (s.data.toList.take n)) 0 cur w hg (by rw [hlen]; simpa using hfit) (Lib.byteCells_one _)
  have htk : List.take n (List.map (fun b : UInt8 => Value.int IntKind.u8 (b.toNat : Int)) s.data.toList) = Lib.byteCells (s.data.toList.take n) := by
    rw [← List.map_take]
    rfl
  rw [hlen] at hst
  simp only [Nat.add_zero] at hst
  cases hq : P.info? elem with
  | none => simp [hq] at hs
  | some i =>
    simp [Builtin.copy_, run_underlying hu, Builtin.lenOf, Builtin.firstCells, sizeOf, typeInfo, hq, hn]
    rw [htk, hst]
    simp [Result.andThen]

theorem eq_yes (W : World) : (Op.equalIn 10000 37 (.agg #[.int .u8 0, .int .u8 0, .int .u8 0, .int .u8 0]) (.agg #[.int .u8 0, .int .u8 0, .int .u8 0, .int .u8 0])).run Try.prog W = .ok true W := by kernel_rfl
theorem nat_cases (c : UInt8) : c = 0 ∨ ∃ k, c.toNat = k + 1 := by
  rcases Nat.eq_zero_or_pos c.toNat with h | h
  · exact .inl (UInt8.toNat_inj.1 h)
  · exact .inr ⟨c.toNat - 1, by omega⟩
theorem eq_n0 (k : Nat) (b c d : Int) (W : World) : (Op.equalIn 10000 37 (.agg #[.int .u8 ((k + 1 : Nat) : Int), .int .u8 b, .int .u8 c, .int .u8 d]) (.agg #[.int .u8 0, .int .u8 0, .int .u8 0, .int .u8 0])).run Try.prog W = .ok false W := by kernel_rfl
theorem eq_n1 (k : Nat) (c d : Int) (W : World) : (Op.equalIn 10000 37 (.agg #[.int .u8 0, .int .u8 ((k + 1 : Nat) : Int), .int .u8 c, .int .u8 d]) (.agg #[.int .u8 0, .int .u8 0, .int .u8 0, .int .u8 0])).run Try.prog W = .ok false W := by kernel_rfl
theorem eq_n2 (k : Nat) (d : Int) (W : World) : (Op.equalIn 10000 37 (.agg #[.int .u8 0, .int .u8 0, .int .u8 ((k + 1 : Nat) : Int), .int .u8 d]) (.agg #[.int .u8 0, .int .u8 0, .int .u8 0, .int .u8 0])).run Try.prog W = .ok false W := by kernel_rfl
theorem eq_n3 (k : Nat) (W : World) : (Op.equalIn 10000 37 (.agg #[.int .u8 0, .int .u8 0, .int .u8 0, .int .u8 ((k + 1 : Nat) : Int)]) (.agg #[.int .u8 0, .int .u8 0, .int .u8 0, .int .u8 0])).run Try.prog W = .ok false W := by kernel_rfl
theorem eq_no (a b c d : UInt8) (h : ¬ (a = 0 ∧ b = 0 ∧ c = 0 ∧ d = 0)) (W : World) : (Op.equalIn 10000 37 (.agg #[.int .u8 (a.toNat : Int), .int .u8 (b.toNat : Int), .int .u8 (c.toNat : Int), .int .u8 (d.toNat : Int)]) (.agg #[.int .u8 0, .int .u8 0, .int .u8 0, .int .u8 0])).run Try.prog W = .ok false W := by
  rcases nat_cases a with rfl | ⟨k, hk⟩
  · rcases nat_cases b with rfl | ⟨k, hk⟩
    · rcases nat_cases c with rfl | ⟨k, hk⟩
      · rcases nat_cases d with rfl | ⟨k, hk⟩
        · exact absurd ⟨rfl, rfl, rfl, rfl⟩ h
        · rw [hk]; exact eq_n3 k W
      · rw [hk]; exact eq_n2 k _ W
    · rw [hk]; exact eq_n1 k _ _ W
  · rw [hk]; exact eq_n0 k _ _ _ W

theorem app_one {N q : Nat} {A : Option Addr} {C : Nat} {o : List UInt8} (x : UInt8) (W : World) (hown : W.ownsRow N 5 1 (.slice A q C) q (cellsOf o)) (hN : N ≤ W.heap.size) (hqb : q ≤ 10000000) :
    ∃ g cap w2, Sem.run Try.prog (Builtin.append_ #[30, 30] 30 #[.slice A q C, .slice (some ⟨W.heap.size, 0, none⟩) 1 1]) (W.alloc (.cells #[.int .u8 (x.toNat : Int)] 5)) = .ok (.slice (some ⟨g, 0, none⟩) (q + 1) cap) w2 ∧
      w2.ownsRow N 5 1 (.slice (some ⟨g, 0, none⟩) (q + 1) cap) (q + 1) (cellsOf (o ++ [x])) ∧ Below N W w2 ∧ ∀ k t cs, Blk W k t cs → (Value.slice A q C).ownBlock ≠ some k → Blk w2 k t cs ∧ g ≠ k := by
  obtain ⟨i5, hi, hz0, hz1, hz2⟩ := info_parts info5
  obtain ⟨g, cap, w2, hrun, h1, h2, h3, h4⟩ := run_append_lies (P := Try.prog) (w := W.alloc (.cells #[.int .u8 (x.toNat : Int)] 5)) 30 30 N 5 i5 (.int .u8 0) 1 1 Try.underlying30 hi hz0 hz1 hz2 rfl (by decide) (.slice A q C) q (cellsOf o) (hown.alloc _) ⟨W.heap.size, 0, none⟩ 1 1 [.int .u8 (x.toNat : Int)] rfl (World.news_of_block (heap_alloc_new W _)) (by simp [Value.oneCell']) (by decide) (by unfold maxLen; omega) (by omega) (by rw [World.size_alloc]; omega) (W.heap.size + 1) (World.size_alloc _ _)
  refine ⟨g, cap, w2, hrun, by rw [cellsOf_append]; exact h1, ((Below.refl N W).alloc hN _).grown h2 (by rw [World.size_alloc]; omega) (fun g h => (hown.lt g h).1), fun k t cs hX hk => ?_⟩
  refine ⟨(hX.alloc _).grown h2 (fun e => hk e.symm), ?_⟩
  have := hX.lt
  rcases h3 with h | h
  · intro e
    rw [e] at h
    exact hk h
  · omega
/-- What Five has written: a row of the call's own. -/
def FivTo (N : Nat) (w : World) (L : List UInt8) (R : ByteArray) (o : List UInt8) (v : Value) (wr : World) : Prop :=
  wr.ownsRow N 5 1 v o.length (cellsOf o) ∧ Below N w wr ∧ L = o ++ fiveE R.data.toList ∧ o.length + 2 * R.size ≤ 2 * 4000000
theorem own_keep {w w' : World} {base : Nat} {e : TypeId} {size : Nat} {v : Value} {n : Nat} {xs : List Value} (h : w.ownsRow base e size v n xs) (hb : Below w.heap.size w w') : w'.ownsRow base e size v n xs := by
  refine h.kept (row := none) ⟨hb.os, hb.tape, hb.output, hb.size, fun i hi _ => hb.block i hi⟩ ?_
  rcases h.2 with ⟨e, _⟩ | ⟨k, cap, cur, e, _⟩
  · exact .inl (by rw [e]; rfl)
  · exact .inr (by rw [e]; simp [Value.ownBlock])
theorem below_setRow {B : Nat} {w w' : World} (h : Below B w w') (cs : Array Value) : Below B w (w'.setRow B cs) :=
  ⟨h.os, h.tape, h.output, Nat.le_trans h.size (by simp [World.setRow]), fun j hj => by
    have : (w'.setRow B cs).heap[j]? = w'.heap[j]? := by simp [World.setRow, Array.getElem?_modify]; omega
    exact this.trans (h.block j hj)⟩
/-- The digits that are written, so far. -/
def DigTo (N : Nat) (w : World) (V : Nat) (o : List UInt8) (K2 q k : Nat) (A : Option Addr) (C : Nat) (wr : World) : Prop :=
  wr.ownsRow N 5 1 (.slice A (q + k) C) (q + k) (cellsOf (o ++ (digs V).take k)) ∧ Below N w wr ∧ Blk wr K2 50 (cellsOf (digs0 V)).toArray ∧ (Value.slice A (q + k) C).ownBlock ≠ some K2
theorem dig_at (V : Nat) {k : Nat} (hk : k < 5) : ∃ z y : UInt8, (cellsOf (digs0 V)).toArray[k]? = some (.int .u8 (z.toNat : Int)) ∧ (digs V).take (k + 1) = (digs V).take k ++ [y] ∧ (y.toNat : Int) = 33 + (z.toNat : Int) ∧ (z.toNat : Int) ≤ 84 := by
  have key : ∀ x : Nat, ((UInt8.ofNat (33 + x % 85)).toNat : Int) = 33 + ((UInt8.ofNat (x % 85)).toNat : Int) ∧ ((UInt8.ofNat (x % 85)).toNat : Int) ≤ 84 := fun x => by
    rw [UInt8.toNat_ofNat', UInt8.toNat_ofNat']
    omega
  match k, hk with
  | 0, _ => exact ⟨_, _, rfl, rfl, (key _).1, (key _).2⟩
  | 1, _ => exact ⟨_, _, rfl, rfl, (key _).1, (key _).2⟩
  | 2, _ => exact ⟨_, _, rfl, rfl, (key _).1, (key _).2⟩
  | 3, _ => exact ⟨_, _, rfl, rfl, (key _).1, (key _).2⟩
  | 4, _ => exact ⟨_, _, rfl, rfl, (key _).1, (key _).2⟩
/-- The next bytes, four of them, filled up with zeros. -/
def grp (l : List UInt8) : List UInt8 := l.take 4 ++ List.replicate (4 - l.length) 0
theorem grp_val (l : List UInt8) : v4 (grp l) = val4 l := rfl
theorem grp_four (l : List UInt8) : ∃ a b c d, grp l = [a, b, c, d] := by
  have h : (grp l).length = 4 := by unfold grp; rw [List.length_append, List.length_take, List.length_replicate]; omega
  match grp l, h with
  | [a, b, c, d], _ => exact ⟨a, b, c, d, rfl⟩
theorem setRow_blk {w : World} {g : Nat} {t : TypeId} {cs : Array Value} (h : Blk w g t cs) (cs' : Array Value) : Blk (w.setRow g cs') g t cs' := by
  unfold Blk at h ⊢
  simp [World.setRow, Array.getElem?_modify, h]
theorem val4_lt (l : List UInt8) : val4 l ≤ 4294967295 := by
  obtain ⟨a, b, c, d, h⟩ := grp_four l
  rw [← grp_val, h]
  have ha := a.toNat_lt
  have hb := b.toNat_lt
  have hc := c.toNat_lt
  have hd := d.toNat_lt
  show 256 * (256 * (256 * (256 * 0 + a.toNat) + b.toNat) + c.toNat) + d.toNat ≤ _
  omega

set_option maxRecDepth 100000 in
set_option maxHeartbeats 4000000 in
theorem five_any (s : ByteArray) (w : World) (hs : s.size ≤ 1000000) :
    Calls Try.prog 13 #[.string s] w fun e w' => e = .returned (.string (⟨(fiveE s.data.toList).toArray⟩ ++ ⟨#[126, 62]⟩)) ∧ Below w.heap.size w w' := by
  obtain ⟨i5, hi, hz0, hz1, hz2⟩ := info_parts info5
  obtain ⟨L, hL⟩ : ∃ L, fiveE s.data.toList = L := ⟨_, rfl⟩
  obtain ⟨N, hN⟩ : ∃ N, w.heap.size = N := ⟨_, rfl⟩
  rw [hL, hN]
  have hst := Lib.hid (show FivTo N w L s [] (.slice none 0 0) w from ⟨World.ownsRow_nil _ _ _ _, by rw [← hN]; exact Below.refl _ _, by rw [List.nil_append, hL], by simp; omega⟩)
  have HNW := Lib.hid hN
  have HLL := Lib.hid (show L.length ≤ 5000000 by
    rw [← hL]
    have := fiveE_len s.data.toList
    have e : s.data.toList.length = s.size := by simp
    omega)
  clear hL hN
  go_enter Try.func13, Try.ntmps13
  go_wp2_with fail
  go_loopw [0, 3] (fun sv v wr => ∃ (R : ByteArray) (o : List UInt8), sv = .string R ∧ R.size ≤ s.size ∧ Hid (FivTo N w L R o v wr)) (fun sv _ _ => match sv with | .string R => R.size | _ => 0)
  case atStart => exact ⟨s, [], rfl, Nat.le_refl _, hst⟩
  case round =>
    obtain ⟨R, o, rfl, hRs, HR⟩ := hrel
    obtain ⟨h1, h2, h3, h4⟩ := HR.out
    obtain ⟨A, C, hv⟩ := own_form h1
    obtain ⟨q, hq⟩ : ∃ q, o.length = q := ⟨_, rfl⟩
    rw [hq] at hv h1 h4
    subst hv
    have HO := Lib.hid h1
    have HB := Lib.hid h2
    have HL := Lib.hid h3
    have HQ := Lib.hid hq
    clear hst HR
    rcases Nat.eq_zero_or_pos R.size with hz | hpos
    · have hR0 : R.data.toList = [] := List.eq_nil_of_length_eq_zero (by have e : R.data.toList.length = R.size := (by simp); omega)
      have hemp : R.toList.isEmpty = true := by
        cases h : R.toList.isEmpty with
        | true => rfl
        | false => exact absurd hR0 (empty_no h)
      have hconv := run_string_of_own (l := o) h1 HQ.out
      have HL2 := Lib.hid (show o = L by rw [HL.out, hR0, fiveE_nil, List.append_nil])
      obtain ⟨X, hX⟩ : ∃ X : ByteArray, (⟨o.toArray⟩ : ByteArray) = X := ⟨_, rfl⟩
      have hsz : X.size ≤ 5000000 := by
        have e : X.size = o.length := by rw [← hX]; simp [ByteArray.size]
        have := HLL.out
        rw [← HL2.out] at this
        omega
      rw [hX] at hconv
      have HX := Lib.hid (show (⟨L.toArray⟩ : ByteArray) = X by rw [← HL2.out]; exact hX)
      clear h1 h2 h3 hq hX
      go_wp2_with fail
      go_ret
      exact ⟨by rw [HX.out]; rfl, HB.out⟩
    · have hl : R.data.toList.length = R.size := by simp
      have hne : R.data.toList ≠ [] := by intro e; rw [e] at hl; simp at hl; omega
      have hne2 : R.toList.isEmpty = false := by
        cases h : R.toList.isEmpty with
        | false => rfl
        | true => exact absurd (empty_yes h) hne
      obtain ⟨n, hn⟩ : ∃ n, Nat.min R.size 4 = n := ⟨_, rfl⟩
      have hn4 : n ≤ 4 := by rw [← hn]; exact Nat.min_le_right _ _
      have hnR : n ≤ R.size := by rw [← hn]; exact Nat.min_le_left _ _
      have hn1 : 1 ≤ n := by rw [← hn]; exact Nat.le_min.2 ⟨hpos, by decide⟩
      obtain ⟨a, b, c, d, hg⟩ := grp_four R.data.toList
      obtain ⟨W1, hW1⟩ : ∃ W1, wr.alloc (.cells #[.int .u8 0, .int .u8 0, .int .u8 0, .int .u8 0] 37) = W1 := ⟨_, rfl⟩
      have hX1 : Blk W1 wr.heap.size 37 #[.int .u8 0, .int .u8 0, .int .u8 0, .int .u8 0] := by rw [← hW1]; exact Blk.new wr _ _
      have hcp := run_copy_part (P := Try.prog) W1 30 9 3 5 wr.heap.size 4 4 n R #[.int .u8 0, .int .u8 0, .int .u8 0, .int .u8 0] 37 Try.underlying30 (by rw [hi]; simp [hz1]) hX1 hn (by simpa using hn4)
      have hrow : Lib.byteCells (R.data.toList.take n) ++ (#[.int .u8 0, .int .u8 0, .int .u8 0, .int .u8 0] : Array Value).toList.drop n = [.int .u8 (a.toNat : Int), .int .u8 (b.toNat : Int), .int .u8 (c.toNat : Int), .int .u8 (d.toNat : Int)] := by
        have e := congrArg cellsOf hg
        have e2 : cellsOf [a, b, c, d] = [.int .u8 (a.toNat : Int), .int .u8 (b.toNat : Int), .int .u8 (c.toNat : Int), .int .u8 (d.toNat : Int)] := rfl
        rw [← e2, ← e]
        have hmn : n = min R.size 4 := hn.symm
        have h1 : R.data.toList.take n = R.data.toList.take 4 := by
          rw [hmn, ← hl]
          rcases Nat.le_total R.data.toList.length 4 with h | h
          · rw [Nat.min_eq_left h, List.take_of_length_le (Nat.le_refl _), List.take_of_length_le h]
          · rw [Nat.min_eq_right h]
        have h2 : (#[.int .u8 0, .int .u8 0, .int .u8 0, .int .u8 0] : Array Value).toList.drop n = cellsOf (List.replicate (4 - R.data.toList.length) 0) := by
          rw [hl, show 4 - R.size = 4 - n by omega]
          have hc : n = 1 ∨ n = 2 ∨ n = 3 ∨ n = 4 := by omega
          rcases hc with h | h | h | h <;> rw [h] <;> rfl
        unfold grp
        rw [h1, h2, cellsOf_append]
        rfl
      rw [hrow] at hcp
      obtain ⟨W2, hW2⟩ : ∃ W2, W1.setRow wr.heap.size [.int .u8 (a.toNat : Int), .int .u8 (b.toNat : Int), .int .u8 (c.toNat : Int), .int .u8 (d.toNat : Int)].toArray = W2 := ⟨_, rfl⟩
      rw [hW2] at hcp
      have hX2 : Blk W2 wr.heap.size 37 #[.int .u8 (a.toNat : Int), .int .u8 (b.toNat : Int), .int .u8 (c.toNat : Int), .int .u8 (d.toNat : Int)] := by rw [← hW2]; exact setRow_blk hX1 _
      have hbw : Below wr.heap.size wr W2 := by rw [← hW2, ← hW1]; exact below_setRow ((Below.refl _ _).alloc (Nat.le_refl _) _) _
      have hWN : N ≤ wr.heap.size := by have := h2.size; rw [HNW.out] at this; exact this
      have hO2 := own_keep h1 hbw
      have hB2 : Below N w W2 := h2.trans (hbw.mono hWN)
      have hWs : W2.heap.size = wr.heap.size + 1 := by rw [← hW2, ← hW1]; simp [World.setRow]
      have c0 : W2.cell? ⟨wr.heap.size, 0, none⟩ = some (.int .u8 (a.toNat : Int)) := hX2.cell 0
      have c1 : W2.cell? ⟨wr.heap.size, 1, none⟩ = some (.int .u8 (b.toNat : Int)) := hX2.cell 1
      have c2 : W2.cell? ⟨wr.heap.size, 2, none⟩ = some (.int .u8 (c.toNat : Int)) := hX2.cell 2
      have c3 : W2.cell? ⟨wr.heap.size, 3, none⟩ = some (.int .u8 (d.toNat : Int)) := hX2.cell 3
      obtain ⟨Y, hY⟩ : ∃ Y, R.extract n R.size = Y := ⟨_, rfl⟩
      have hYl : Y.data.toList = R.data.toList.drop n := by rw [← hY]; exact (ext_many rfl n).2
      have hYs : Y.size = R.size - n := by rw [← hY, ByteArray.size_extract]; omega
      have hdrop : R.data.toList.drop n = R.data.toList.drop 4 := by
        have hmn : n = min R.size 4 := hn.symm
        rcases Nat.le_total R.size 4 with h | h
        · rw [List.drop_eq_nil_of_le (by omega), List.drop_eq_nil_of_le (by omega)]
        · rw [show n = 4 by omega]
      have HO2 := Lib.hid hO2
      have HB2 := Lib.hid hB2
      have HWs := Lib.hid hWs
      have HWN := Lib.hid hWN
      have HYl := Lib.hid (hYl.trans hdrop)
      have hYlt : Y.size < R.size := by omega
      have hYs2 : Y.size ≤ s.size := by omega
      have HNE := Lib.hid hne
      have HG := Lib.hid hg
      clear hX1 hX2 hbw hO2 hB2 hWs hWN hYl hdrop hrow hW2 hne hl h1 h2 h3 hq hg
      by_cases hz4 : n = 4 ∧ a = 0 ∧ b = 0 ∧ c = 0 ∧ d = 0
      · obtain ⟨rfl, rfl, rfl, rfl, rfl⟩ := hz4
        have hval : val4 R.data.toList = 0 := by rw [← grp_val, HG.out]; rfl
        have heq := eq_yes
        obtain ⟨g, cap, w3, hrun, hown3, hb3, _⟩ := app_one 122 W2 HO2.out (by have := HWs.out; have := HWN.out; omega) (by omega)
        have hrun2 : Sem.run Try.prog (Builtin.append_ #[30, 30] 30 #[.slice A q C, .slice (some ⟨W2.heap.size, 0, none⟩) 1 1]) (W2.alloc (.cells #[.int .u8 122] 5)) = .ok (.slice (some ⟨g, 0, none⟩) (q + 1) cap) w3 := hrun
        have hN2 := Lib.hid (show FivTo N w L Y (o ++ [122]) (.slice (some ⟨g, 0, none⟩) (q + 1) cap) w3 from by
          have hlen : (o ++ [(122 : UInt8)]).length = q + 1 := by rw [List.length_append, HQ.out]; rfl
          refine ⟨by rw [hlen]; exact hown3, HB2.out.trans hb3, ?_, by rw [hlen]; omega⟩
          rw [HL.out, fiveE_cons HNE.out, HYl.out]
          have e1 : five1 R.data.toList = [122] := by
            unfold five1
            rw [if_pos ⟨by have e : R.data.toList.length = R.size := (by simp); have := Nat.min_le_left R.size 4; omega, hval⟩]
          rw [e1, List.append_assoc])
        clear hrun hown3 hb3
        go_wp2_with fail
        go_roundw
        case rel => exact ⟨Y, _, rfl, hYs2, hN2⟩
        case measure => exact hYlt
      · obtain ⟨V, hV⟩ : ∃ V, val4 R.data.toList = V := ⟨_, rfl⟩
        have hV4 : v4 [a, b, c, d] = V := by rw [← HG.out, grp_val]; exact hV
        have hf1 : five1 R.data.toList = (digs V).take (n + 1) := by
          have hmn : n = min R.size 4 := hn.symm
          have e : R.data.toList.length = R.size := by simp
          unfold five1
          rw [hV, e, Nat.min_comm, ← hmn]
          by_cases h4 : n = 4
          · rw [if_neg]
            rintro ⟨_, h0⟩
            refine hz4 ⟨h4, ?_⟩
            have hb : ((a.toNat * 256 + b.toNat) * 256 + c.toNat) * 256 + d.toNat = 0 := by
              rw [← val4_len, ← grp_val]
              show v4 (grp [a, b, c, d]) = 0
              have : grp [a, b, c, d] = [a, b, c, d] := rfl
              rw [this, hV4, h0]
            refine ⟨?_, ?_, ?_, ?_⟩ <;> (apply UInt8.toNat_inj.1; show _ = 0; omega)
          · rw [if_neg (by omega)]
        have HF1 := Lib.hid hf1
        have HD := Lib.hid (fun W : World => digitsOf_in a b c d V W hV4)
        have HVs := Lib.hid (show V ≤ 4294967295 by rw [← hV]; exact val4_lt _)
        have hn0 : (0 : Int) ≤ (n : Int) + 1 := by omega
        have hn5 : (n : Int) + 1 ≤ 5 := by omega
        by_cases hn44 : n = 4
        · subst hn44
          have heq := eq_no a b c d (fun h => hz4 ⟨rfl, h⟩)
          go_wp2_with fail
          refine (HD.out W2).mono ?_
          rintro e w3 ⟨K2, hK, rfl, hX3, hb3⟩
          have hO3 := own_keep HO2.out hb3
          have hB3 : Below N w w3 := HB2.out.trans (hb3.mono (by have := HWs.out; have := HWN.out; omega))
          have hnk : (Value.slice A q C).ownBlock ≠ some K2 := fun h => by have := (HO2.out.lt _ h).2; omega
          have HT0 := Lib.hid (show DigTo N w V o K2 q 0 A C w3 from ⟨by rw [List.take_zero, List.append_nil]; exact hO3, hB3, hX3, hnk⟩)
          clear hX3 hb3 hO3 hB3 hnk
          go_wp2_with fail
          go_loopw [3, 32] (fun v i wr2 => ∃ (k : Nat) (A' : Option Addr) (C' : Nat), k ≤ 4 + 1 ∧ i = .int .i64 (k : Int) ∧ v = .slice A' (q + k) C' ∧ Hid (DigTo N w V o K2 q k A' C' wr2)) (fun _ i _ => 4 + 1 - (intOf i).toNat)
          case atStart => exact ⟨0, A, C, by omega, rfl, rfl, HT0⟩
          case round =>
            clear HT0
            obtain ⟨k, A', C', hk, rfl, rfl, HT⟩ := hrel
            obtain ⟨g1, g2, g3, g4⟩ := HT.out
            have hNs : N ≤ wr.heap.size := by have := g2.size; rw [HNW.out] at this; exact this
            by_cases hlt : k < 4 + 1
            · have i0 : (0 : Int) ≤ (k : Int) := by omega
              have i1 : (k : Int) < (4 : Int) + 1 := by omega
              obtain ⟨z, y, hz, hy, hzy, hz84⟩ := dig_at V (k := k) (by omega)
              have hc : wr.cell? ⟨K2, k, none⟩ = some (.int .u8 (z.toNat : Int)) := (g3.cell k).trans hz
              obtain ⟨g, cap, w5, hrun, hown5, hb5, hfr⟩ := app_one y wr g1 hNs (by omega)
              obtain ⟨hX5, hgk⟩ := hfr K2 _ _ g3 g4
              rw [hzy] at hrun
              have HN := Lib.hid (show DigTo N w V o K2 q (k + 1) (some ⟨g, 0, none⟩) cap w5 from ⟨by rw [hy, ← List.append_assoc]; exact hown5, g2.trans hb5, hX5, by simpa [Value.ownBlock] using hgk⟩)
              clear g1 g2 g3 g4 hz hy hown5 hb5 hfr hX5 hgk
              go_wp2_with fail
              go_roundw
              case rel => exact ⟨k + 1, some ⟨g, 0, none⟩, cap, by omega, by go_num, rfl, HN⟩
              case measure => simp [intOf]; omega
            · obtain rfl : k = 4 + 1 := by omega
              have hN2 := Lib.hid (show FivTo N w L Y (o ++ (digs V).take (4 + 1)) (.slice A' (q + (4 + 1)) C') wr from by
                have hlen : (o ++ (digs V).take (4 + 1)).length = q + (4 + 1) := by rw [List.length_append, HQ.out, List.length_take]; show q + min (4 + 1) 5 = _; omega
                refine ⟨by rw [hlen]; exact g1, g2, ?_, by rw [hlen]; omega⟩
                rw [HL.out, fiveE_cons HNE.out, HYl.out, HF1.out, List.append_assoc])
              clear g1 g2 g3 g4
              go_wp2_with fail
              go_roundw
              case rel => exact ⟨Y, _, rfl, hYs2, hN2⟩
              case measure => exact hYlt
        · have hne4 : ((n : Int) == 4) = false := beq_eq_false_iff_ne.2 (fun e => hn44 (by omega))
          go_wp2_with fail
          refine (HD.out W2).mono ?_
          rintro e w3 ⟨K2, hK, rfl, hX3, hb3⟩
          have hO3 := own_keep HO2.out hb3
          have hB3 : Below N w w3 := HB2.out.trans (hb3.mono (by have := HWs.out; have := HWN.out; omega))
          have hnk : (Value.slice A q C).ownBlock ≠ some K2 := fun h => by have := (HO2.out.lt _ h).2; omega
          have HT0 := Lib.hid (show DigTo N w V o K2 q 0 A C w3 from ⟨by rw [List.take_zero, List.append_nil]; exact hO3, hB3, hX3, hnk⟩)
          clear hX3 hb3 hO3 hB3 hnk
          go_wp2_with fail
          go_loopw [3, 32] (fun v i wr2 => ∃ (k : Nat) (A' : Option Addr) (C' : Nat), k ≤ n + 1 ∧ i = .int .i64 (k : Int) ∧ v = .slice A' (q + k) C' ∧ Hid (DigTo N w V o K2 q k A' C' wr2)) (fun _ i _ => n + 1 - (intOf i).toNat)
          case atStart => exact ⟨0, A, C, by omega, rfl, rfl, HT0⟩
          case round =>
            clear HT0
            obtain ⟨k, A', C', hk, rfl, rfl, HT⟩ := hrel
            obtain ⟨g1, g2, g3, g4⟩ := HT.out
            have hNs : N ≤ wr.heap.size := by have := g2.size; rw [HNW.out] at this; exact this
            by_cases hlt : k < n + 1
            · have i0 : (0 : Int) ≤ (k : Int) := by omega
              have i1 : (k : Int) < (n : Int) + 1 := by omega
              obtain ⟨z, y, hz, hy, hzy, hz84⟩ := dig_at V (k := k) (by omega)
              have hc : wr.cell? ⟨K2, k, none⟩ = some (.int .u8 (z.toNat : Int)) := (g3.cell k).trans hz
              obtain ⟨g, cap, w5, hrun, hown5, hb5, hfr⟩ := app_one y wr g1 hNs (by omega)
              obtain ⟨hX5, hgk⟩ := hfr K2 _ _ g3 g4
              rw [hzy] at hrun
              have HN := Lib.hid (show DigTo N w V o K2 q (k + 1) (some ⟨g, 0, none⟩) cap w5 from ⟨by rw [hy, ← List.append_assoc]; exact hown5, g2.trans hb5, hX5, by simpa [Value.ownBlock] using hgk⟩)
              clear g1 g2 g3 g4 hz hy hown5 hb5 hfr hX5 hgk
              go_wp2_with fail
              go_roundw
              case rel => exact ⟨k + 1, some ⟨g, 0, none⟩, cap, by omega, by go_num, rfl, HN⟩
              case measure => simp [intOf]; omega
            · obtain rfl : k = n + 1 := by omega
              have hN2 := Lib.hid (show FivTo N w L Y (o ++ (digs V).take (n + 1)) (.slice A' (q + (n + 1)) C') wr from by
                have hlen : (o ++ (digs V).take (n + 1)).length = q + (n + 1) := by rw [List.length_append, HQ.out, List.length_take]; show q + min (n + 1) 5 = _; omega
                refine ⟨by rw [hlen]; exact g1, g2, ?_, by rw [hlen]; omega⟩
                rw [HL.out, fiveE_cons HNE.out, HYl.out, HF1.out, List.append_assoc])
              clear g1 g2 g3 g4
              go_wp2_with fail
              go_roundw
              case rel => exact ⟨Y, _, rfl, hYs2, hN2⟩
              case measure => exact hYlt
end Go.Proofs.Ythioafndepkhoaa
