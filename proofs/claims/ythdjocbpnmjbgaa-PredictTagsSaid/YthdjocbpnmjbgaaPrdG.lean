/-
  The document's Encode, walked over its rows.
-/
import Derived.Test.YthdjocbpnmjbgaaPrdF
namespace Go.Proofs.Ythdjocbpnmjbgaa
open Go.RowKit Oct Prd
attribute [-go_sem] Builtin.append_

/-- The row pv lies in memory, and not where the row v lies. -/
def Apart (W : World) (pv v : Value) : Prop := ∀ A n C, pv = .slice (some A) n C → A.block < W.heap.size ∧ v.ownBlock ≠ some A.block
/-- A coder's memory: the row before, the row, and what there is of the result. -/
structure EncSt (M : Nat) (W wx : World) (pv rv ov : Value) (prev row o : List UInt8) : Prop where
  low : Below M W wx
  base : M ≤ wx.heap.size
  out : wx.ownsRow M 5 1 ov o.length (bC o)
  prv : IsRow wx pv prev
  row : IsRow wx rv row
  ap1 : Apart wx pv ov
  ap2 : Apart wx rv ov
theorem EncSt.then_below {M : Nat} {W wx wy : World} {pv rv ov : Value} {prev row o : List UInt8} (h : EncSt M W wx pv rv ov prev row o) (hb : Below wx.heap.size wx wy) : EncSt M W wy pv rv ov prev row o :=
  ⟨h.low.trans (hb.mono h.base), Nat.le_trans h.base hb.size, h.out.kept (row := none) ⟨hb.os, hb.tape, hb.output, hb.size, fun k hk _ => hb.block k hk⟩ (by cases ov.ownBlock <;> simp),
    h.prv.below (Nat.le_refl _) hb, h.row.below (Nat.le_refl _) hb, fun A n C e => ⟨Nat.lt_of_lt_of_le (h.ap1 A n C e).1 hb.size, (h.ap1 A n C e).2⟩, fun A n C e => ⟨Nat.lt_of_lt_of_le (h.ap2 A n C e).1 hb.size, (h.ap2 A n C e).2⟩⟩
theorem IsRow.grown {W W' : World} {v : Value} {l : List UInt8} {r : Option Nat} (h : IsRow W v l) (hg : W.grownBy W' r) (hne : ∀ A n C, v = .slice (some A) n C → r ≠ some A.block) : IsRow W' v l := by
  obtain ⟨A, C, rfl, h2⟩ := h
  refine ⟨A, C, rfl, fun j hj => ?_⟩
  obtain ⟨b, o, h3, h4⟩ := h2 j hj
  refine ⟨b, o, h3, ?_⟩
  rw [hg.cell_far ⟨b, o + j, none⟩ (World.block_lt_of_cell? W _ h4) (fun e => hne ⟨b, o, none⟩ l.length C (by rw [h3]) e.symm)]
  exact h4
theorem EncSt.then_append {M g cap : Nat} {W wx wy : World} {pv rv ov : Value} {prev row o o2 : List UInt8} (h : EncSt M W wx pv rv ov prev row o) (hg : wx.grownBy wy ov.ownBlock)
    (hown : wy.ownsRow M 5 1 (.slice (some ⟨g, 0, none⟩) o2.length cap) o2.length (bC o2)) (hat : ov.ownBlock = some g ∨ g = wx.heap.size) : EncSt M W wy pv rv (.slice (some ⟨g, 0, none⟩) o2.length cap) prev row o2 := by
  have hap : ∀ u, Apart wx u ov → Apart wy u (.slice (some ⟨g, 0, none⟩) o2.length cap) := fun u hu A n C e => by
    obtain ⟨h1, h2⟩ := hu A n C e
    refine ⟨Nat.lt_of_lt_of_le h1 hg.size, fun e2 => ?_⟩
    have e3 : g = A.block := by injection e2
    rcases hat with h3 | h3
    · exact h2 (by rw [h3, e3])
    · omega
  exact ⟨h.low.grown hg h.base (fun k hk => (h.out.lt k hk).1), Nat.le_trans h.base hg.size, hown, h.prv.grown hg (fun A n C e => (h.ap1 A n C e).2), h.row.grown hg (fun A n C e => (h.ap2 A n C e).2), hap _ h.ap1, hap _ h.ap2⟩
theorem addr_add (b o j : Nat) : ((⟨b, o, none⟩ : Addr).add j) = ⟨b, o + j, none⟩ := by unfold Addr.add; split <;> simp_all
/-- Appending a row that is read to a row of the call's own. -/
theorem app_row (W : World) (M : Nat) (v rv : Value) (o l : List UInt8) (ho : W.ownsRow M 5 1 v o.length (bC o)) (hr : IsRow W rv l) (hl : 0 < l.length) (hb : o.length + l.length ≤ 1000000000) (hM : M ≤ W.heap.size) :
    ∃ g cap W', Sem.run Try.prog (Builtin.append_ #[43, 43] 43 #[v, rv]) W = .ok (.slice (some ⟨g, 0, none⟩) (o ++ l).length cap) W' ∧
      W'.ownsRow M 5 1 (.slice (some ⟨g, 0, none⟩) (o ++ l).length cap) (o ++ l).length (bC (o ++ l)) ∧ W.grownBy W' v.ownBlock ∧ (v.ownBlock = some g ∨ g = W.heap.size) := by
  obtain ⟨i5, hi, hz0, hz1, hz2⟩ := info_parts binfo
  obtain ⟨b, ofs, C, rfl, hc⟩ := hr.at0 hl
  obtain ⟨g, cap, W', h1, h2, h3, h4, _⟩ := run_append_lies (P := Try.prog) W 43 43 M 5 i5 (.int .u8 0) 1 1 Try.underlying43 hi hz0 hz1 hz2 rfl (by decide) v o.length (bC o) ho ⟨b, ofs, none⟩ l.length C (bC l) (by rw [bC_len]; omega)
    (fun j u hu => by
      have hj : j < l.length := by
        rcases Nat.lt_or_ge j l.length with h | h
        · exact h
        · rw [List.getElem?_eq_none (by rw [bC_len]; exact h)] at hu; cases hu
      rw [bC_at l j hj] at hu
      rw [addr_add, hc j hj]
      exact hu) (fun u hu => by
      unfold bC at hu
      obtain ⟨x, _, rfl⟩ := List.mem_map.1 hu
      rfl) hl (by unfold maxLen; omega) (by omega) hM W.heap.size rfl
  rw [List.length_append, bC_app]
  exact ⟨g, cap, W', h1, h2, h3, h4⟩
theorem conv_back {W : World} {M : Nat} {v : Value} {l : List UInt8} (hown : W.ownsRow M 5 1 v l.length (bC l)) :
    Sem.run Try.prog (convert 43 9 v) W = .ok (.string ⟨l.toArray⟩) W := by
  rcases hown.2 with ⟨rfl, h0⟩ | ⟨g, cap, cur, rfl, _⟩
  · have hl : l = [] := List.eq_nil_of_length_eq_zero h0
    subst hl
    exact Lib.run_convert_nil_bytes W _ _ _ 0 Try.underlying43 Try.underlying5 Try.underlying9
  · refine run_convert_bytes_back W _ _ _ ⟨g, 0, none⟩ cap l Try.underlying43 Try.underlying5 Try.underlying9 fun j hj => ?_
    exact hown.cells (g := g) rfl j _ (by simp [bC, hj])
theorem extract_row {s : ByteArray} {l : List UInt8} (h : s.data.toList = l) (a n : Nat) : (s.extract a (a + n)).data.toList = (l.drop a).take n := by
  rw [ByteArray.data_extract, Array.toList_extract, h, List.extract_eq_take_drop, show a + n - a = n by omega]
/-- The memory behind the conversion of a row's text. -/
theorem EncSt.fresh {M c : Nat} {W wx : World} {pv ov : Value} {prev o : List UInt8} {R : ByteArray} {row : List UInt8} {fr : Nat × Nat} {pr0 : Value} {r0 : List UInt8} (h : EncSt M W wx pv pr0 ov prev r0 o) (hR : R.data.toList = row) :
    EncSt M W (wx.drew.alloc (.cells (bytesRow R c) 5 fr)) pv (.slice (some ⟨wx.heap.size, 0, none⟩) R.size c) ov prev row o := by
  subst hR
  have hb : Below wx.heap.size wx (wx.drew.alloc (.cells (bytesRow R c) 5 fr)) := ((Below.refl _ wx).drew).alloc (Nat.le_refl _) _
  have h2 := h.then_below hb
  refine ⟨h2.low, h2.base, h2.out, h2.prv, IsRow.bytes (heap_alloc_new wx.drew _), h2.ap1, fun A n C e => ?_⟩
  injection e with e1 e2 e3
  injection e1 with e1
  subst e1
  refine ⟨by show wx.heap.size < _; rw [World.size_alloc]; show wx.heap.size < wx.heap.size + 1; omega, fun e2 => ?_⟩
  have := (h.out.lt _ e2).2
  exact absurd this (Nat.lt_irrefl _)
theorem EncSt.shift {M : Nat} {W wx : World} {pv rv ov : Value} {prev row o : List UInt8} (h : EncSt M W wx pv rv ov prev row o) : EncSt M W wx rv rv ov row row o := ⟨h.low, h.base, h.out, h.row, h.row, h.ap2, h.ap2⟩
theorem EncSt.start {M : Nat} {W : World} (hM : M ≤ W.heap.size) : EncSt M W W (.slice none 0 0) (.slice none 0 0) (.slice none 0 0) [] [] [] :=
  ⟨Below.refl _ _, hM, World.ownsRow_nil _ _ _ _, IsRow.nil _, IsRow.nil _, fun A n C e => (by cases e), fun A n C e => (by cases e)⟩
theorem EncSt.slice {M : Nat} {W wx : World} {pv rv ov : Value} {prev row o : List UInt8} (h : EncSt M W wx pv rv ov prev row o) : ∃ A C, ov = .slice A o.length C := own_form h.out
theorem row_slice {W : World} {v : Value} {l : List UInt8} (h : IsRow W v l) : ∃ A C, v = .slice A l.length C := by
  obtain ⟨A, C, h, _⟩ := h
  exact ⟨A, C, h⟩
theorem EncSt.lit {M : Nat} {W wx : World} {pv rv ov : Value} {prev row o : List UInt8} (b : UInt8) (h : EncSt M W wx pv rv ov prev row o) (ho : o.length ≤ 1000000) :
    ∃ g cap wy, Sem.run Try.prog (Builtin.append_ #[43, 43] 43 #[ov, .slice (some ⟨wx.heap.size, 0, none⟩) 1 1]) (wx.alloc (.cells #[.int .u8 (b.toNat : Int)] 5)) = .ok (.slice (some ⟨g, 0, none⟩) (o ++ [b]).length cap) wy ∧
      EncSt M W wy pv rv (.slice (some ⟨g, 0, none⟩) (o ++ [b]).length cap) prev row (o ++ [b]) := by
  have h2 := h.then_below ((Below.refl wx.heap.size wx).alloc (Nat.le_refl _) (.cells #[.int .u8 (b.toNat : Int)] 5))
  have hr : IsRow (wx.alloc (.cells #[.int .u8 (b.toNat : Int)] 5)) (.slice (some ⟨wx.heap.size, 0, none⟩) 1 1) [b] := by
    refine ⟨some ⟨wx.heap.size, 0, none⟩, 1, rfl, fun j hj => ⟨wx.heap.size, 0, rfl, ?_⟩⟩
    obtain rfl : j = 0 := by simpa using hj
    exact (Blk.new wx 5 #[.int .u8 (b.toNat : Int)]).cell 0
  obtain ⟨g, cap, wy, h3, h4, h5, h6⟩ := app_row (wx.alloc (.cells #[.int .u8 (b.toNat : Int)] 5)) M ov _ o [b] h2.out hr (by simp) (by simp; omega) h2.base
  exact ⟨g, cap, wy, h3, h2.then_append h5 h4 h6⟩
/-- Appending a row that a call has just made. -/
theorem EncSt.more {M n2 : Nat} {W wx wy : World} {pv rv ov lv : Value} {prev row o x : List UInt8} (h : EncSt M W wx pv rv ov prev row o) (hb : Below wx.heap.size wx wy) (hx : wy.ownsRow wx.heap.size 5 1 lv n2 (bC x)) (hx0 : 0 < x.length) (ho : o.length + x.length ≤ 1000000) :
    ∃ g cap wz, Sem.run Try.prog (Builtin.append_ #[43, 43] 43 #[ov, lv]) wy = .ok (.slice (some ⟨g, 0, none⟩) (o ++ x).length cap) wz ∧
      EncSt M W wz pv rv (.slice (some ⟨g, 0, none⟩) (o ++ x).length cap) prev row (o ++ x) := by
  have h2 := h.then_below hb
  obtain ⟨g, cap, wz, h3, h4, h5, h6⟩ := app_row wy M ov lv o x h2.out (IsRow.own hx) hx0 (by omega) h2.base
  exact ⟨g, cap, wz, h3, h2.then_append h5 h4 h6⟩
def tagB (pr tag : Nat) : List UInt8 := if pr < 10 then [] else [UInt8.ofNat tag]
theorem encOne_split (pr c : Nat) (prev row : List UInt8) : encOne pr c prev row = tagB pr (tagOf pr prev row c) ++ lessR (tagOf pr prev row c) prev row c := rfl
theorem enc_next {pr co n : Nat} {l prev row o : List UInt8} {j T : Nat} (h1 : prevR n l j = prev) (h2 : rowR n l j = row) (h3 : encR pr co n l j = o) (hT : tagOf pr prev row co = T) : (o ++ tagB pr T) ++ lessR T prev row co = encR pr co n l (j + 1) := by
  rw [encR_succ, h1, h2, h3, encOne_split, hT, List.append_assoc]

set_option maxRecDepth 100000 in
set_option maxHeartbeats 8000000 in
theorem encD_rows (s : ByteArray) (l : List UInt8) (pr co cl n m : Nat) (w : World) (hl : s.data.toList = l) (hpr : pr = 2 ∨ 10 ≤ pr ∧ pr ≤ 15) (hok : okP pr co cl = true) (hn : co * cl = n) (hs : s.size = n * m) (hs2 : s.size ≤ 4000) (hco : co ≤ 8192) (hcl : cl ≤ 8192) :
    Calls Try.prog 9 #[parmsV pr co cl, .string s] w fun e w' => e = .returned (.tuple #[.string ⟨(encR pr co n l m).toArray⟩, .int .i64 0]) ∧ Below w.heap.size w w' := by
  obtain ⟨_, k1, k2, k3⟩ := okP_iff.1 hok
  have hn1 : 1 ≤ n := by rw [← hn]; exact Nat.mul_pos (by omega) (by omega)
  have hnn : ((co : Int) * (cl : Int)) = (n : Int) := by rw [← hn]; push_cast; rfl
  have hn2 : n ≤ 8192 := by omega
  have hmb : m ≤ 4000 := by
    have : 1 * m ≤ n * m := Nat.mul_le_mul_right m hn1
    omega
  have hll : l.length = n * m := by rw [← hl, ← hs]; simp
  have hB := parms_blk w pr co cl
  have HB1 := Lib.hid ((Below.refl w.heap.size w).alloc (Nat.le_refl _) (.cells #[.int .i64 pr, .int .i64 co, .int .i64 cl] 23))
  obtain ⟨W0, hW⟩ : ∃ W, w.alloc (.cells #[.int .i64 pr, .int .i64 co, .int .i64 cl] 23) = W := ⟨_, rfl⟩
  obtain ⟨N, hN⟩ : ∃ N, w.heap.size = N := ⟨_, rfl⟩
  have hWs : W0.heap.size = N + 1 := by rw [← hW, World.size_alloc, hN]
  have HN := Lib.hid hN
  rw [hN, hW] at hB HB1
  rw [hN]
  have HBk := Lib.hid hB
  have c0 := hB.cell 0
  have c1 := hB.cell 1
  have c2 := hB.cell 2
  simp only [List.getElem?_toArray, List.getElem?_cons_zero, List.getElem?_cons_succ] at c0 c1 c2
  have HC := Lib.hid (fun W' : World => checkD_any pr co cl W' (by unfold I64; omega) (by unfold I64; omega) (by unfold I64; omega))
  rw [chk_yes hok] at HC
  have HRo := Lib.hid (fun W' : World => rowD_any pr co cl W' (by unfold I64; omega) (by unfold I64; omega) (by unfold I64; omega))
  have hrow : rowN pr co cl = (n : Int) := by unfold rowN; rw [if_pos hok, hnn]
  rw [hrow] at HRo
  unfold parmsV at HC HRo ⊢
  have hp1 : ((pr : Int) == 1) = false := beq_eq_false_iff_ne.2 (by omega)
  have hrem : (s.size : Int).tmod (n : Int) = 0 := by rw [hs]; push_cast; exact Int.mul_tmod_right _ _
  have hquo : (s.size : Int).tdiv (n : Int) = (m : Int) := by rw [hs]; push_cast; exact Int.mul_tdiv_cancel_left _ (by omega)
  have hn0 : ((n : Int) == 0) = false := beq_eq_false_iff_ne.2 (by omega)
  have hn0' : ¬ (n : Int) = 0 := by omega
  have HLl := Lib.hid hll
  have HLs := Lib.hid hl
  have HS := Lib.hid hs
  clear hB hok hrow hnn hn k1 k2 k3 hll hl hs
  rcases (show pr = 2 ∨ (10 ≤ pr ∧ pr ≤ 14) ∨ pr = 15 by omega) with hcase | hcase | hcase
  · have p1 : ¬ (2 : Int) < (pr : Int) := by omega
    have p2 : decide ((2 : Int) < (pr : Int)) = false := decide_eq_false p1
    have HTag : Hid (∀ prev row, tagOf pr prev row co = 1) := Lib.hid (fun prev row => by unfold tagOf; rw [if_pos (by omega)])
    have HTb : Hid (∀ g, tagB pr g = []) := Lib.hid (fun g => by unfold tagB; rw [if_pos (by omega)])
    clear hcase hpr
    go_enter Try.func9, Try.ntmps9
    go_wp2_with fail
    refine (HC.out _).mono ?_
    rintro e w1 ⟨rfl, hb⟩
    have HB2 := Lib.hid (HB1.out.trans (hb.mono (by omega)))
    have hBk1 := HBk.out.below hb HBk.out.lt
    have HBk1 := Lib.hid hBk1
    have d0 := hBk1.cell 0
    have d1 := hBk1.cell 1
    have d2 := hBk1.cell 2
    simp only [List.getElem?_toArray, List.getElem?_cons_zero, List.getElem?_cons_succ] at d0 d1 d2
    have HZ1 : Hid (N + 1 ≤ w1.heap.size) := Lib.hid (by have := hb.size; omega)
    clear hb hBk1 hW
    go_wp2_with fail
    refine (HRo.out _).mono ?_
    rintro e w2 ⟨rfl, hb⟩
    have HB3 := Lib.hid (HB2.out.trans (hb.mono (by have := HZ1.out; omega)))
    have HBk2 := Lib.hid (HBk1.out.below hb HBk1.out.lt)
    have HZ2 : Hid (N + 1 ≤ w2.heap.size) := Lib.hid (by have := hb.size; have := HZ1.out; omega)
    have e0 := HBk2.out.cell 0
    simp only [List.getElem?_toArray, List.getElem?_cons_zero] at e0
    clear hb d0 d1 d2
    go_wp2_with fail
    clear e0
    go_loopw [7, 8, 9] (fun pv ov av wr => ∃ j a : Nat, j ≤ m ∧ av = .int .i64 (a : Int) ∧ Hid (n * j = a) ∧ Hid (EncSt (N + 1) w2 wr pv pv ov (prevR n l j) (prevR n l j) (encR pr co n l j)) ∧ (∃ A C, pv = .slice A (prevR n l j).length C) ∧ ∃ A C, ov = .slice A (encR pr co n l j).length C) (fun _ _ av _ => s.size - (intOf av).toNat)
    case atStart => exact ⟨0, 0, by omega, rfl, Lib.hid rfl, Lib.hid (EncSt.start HZ2.out), ⟨none, 0, rfl⟩, ⟨none, 0, rfl⟩⟩
    case round =>
      obtain ⟨j, a, hj, rfl, HA, HE, ⟨A1, C1, rfl⟩, ⟨A2, C2, rfl⟩⟩ := hrel
      have HBw := Lib.hid (HBk2.out.below HE.out.low (by have := HZ2.out; omega))
      have e0 := HBw.out.cell 0
      have e1 := HBw.out.cell 1
      simp only [List.getElem?_toArray, List.getElem?_cons_zero, List.getElem?_cons_succ] at e0 e1
      obtain ⟨prev, hprev⟩ : ∃ x, prevR n l j = x := ⟨_, rfl⟩
      obtain ⟨o, ho⟩ : ∃ x, encR pr co n l j = x := ⟨_, rfl⟩
      have hol : o.length ≤ 20000 := by
        rw [← ho, encR_len HLl.out j hj]
        have h1 : tgs pr ≤ 1 := by unfold tgs; split <;> omega
        have h2 : (tgs pr + n) * j ≤ (1 + n) * m := Nat.mul_le_mul (by omega) hj
        have h3 : (1 + n) * m = m + n * m := by rw [Nat.add_mul, Nat.one_mul]
        have h4 := HS.out
        omega
      rw [hprev, ho] at HE
      obtain ⟨np, hnp⟩ : ∃ x, prev.length = x := ⟨_, rfl⟩
      obtain ⟨no, hno⟩ : ∃ x, o.length = x := ⟨_, rfl⟩
      rw [hprev]
      rw [ho]
      rw [hnp, hno]
      rw [hnp, hno] at HE
      by_cases hjm : j < m
      · have hfit : a + n ≤ s.size := by
          have h1 : n * (j + 1) ≤ n * m := Nat.mul_le_mul_left n hjm
          rw [Nat.mul_add, Nat.mul_one, HA.out] at h1
          have := HS.out
          omega
        have i1 : (a : Int) < (s.size : Int) := by omega
        have i2 : (0 : Int) ≤ (a : Int) := by omega
        have i3 : (a : Int) + (n : Int) ≤ (s.size : Int) := by omega
        have i4 : (a : Int) ≤ (a : Int) + (n : Int) := by omega
        have i5 : (0 : Int) ≤ (a : Int) + (n : Int) := by omega
        obtain ⟨R, hR⟩ : ∃ R, s.extract a (a + n) = R := ⟨_, rfl⟩
        obtain ⟨row, hrow⟩ : ∃ row, rowR n l j = row := ⟨_, rfl⟩
        have hRl : R.data.toList = row := by rw [← hR, extract_row HLs.out, ← hrow, ← HA.out]; rfl
        have hrn : row.length = n := by rw [← hrow]; exact rowR_len HLl.out hjm
        have hRs : R.size = n := by rw [← hrn, ← hRl]; simp
        obtain ⟨cc, X, ⟨fr, rfl⟩, hcv⟩ := conv_at R wr
        rw [hRs] at hcv
        have HE3 := HE.out.fresh (c := cc) (fr := fr) hRl
        rw [hRs] at HE3
        have HNx := Lib.hid (fun T => enc_next (T := T) (pr := pr) (co := co) hprev hrow ho)
        have HNp := Lib.hid (show prevR n l (j + 1) = row by rw [prevR_succ]; exact hrow)
        have HTg := Lib.hid (HTag.out prev row)
        have HRn := Lib.hid hrn
        have HNP := Lib.hid hnp
        have HNO := Lib.hid hno
        have hA2 : n * (j + 1) = a + n := by rw [Nat.mul_add, Nat.mul_one, HA.out]
        have HA2 := Lib.hid hA2
        obtain ⟨Hs, hHs⟩ : ∃ Hs, wr.heap.size = Hs := ⟨_, rfl⟩
        have HHs := Lib.hid hHs
        clear hA2 hrn hRl hrow hprev ho hnp hno
        go_upto_region 18 with fail
        obtain ⟨w3, hw3⟩ : ∃ w3, (wr.alloc (.cells (bytesRow R cc) 5 fr)).drew = w3 := ⟨_, rfl⟩
        have HE4 : Hid (EncSt (N + 1) w2 w3 (.slice A1 np C1) (.slice (some ⟨Hs, 0, none⟩) n cc) (.slice A2 no C2) prev row o) := Lib.hid (by rw [← hw3, ← hHs]; exact HE3)
        rw [hw3]
        clear hw3 hHs HE3 hcv
        have f0 := (HBk2.out.below HE4.out.low (by have := HZ2.out; omega)).cell 0
        have f1 := (HBk2.out.below HE4.out.low (by have := HZ2.out; omega)).cell 1
        simp only [List.getElem?_toArray, List.getElem?_cons_zero, List.getElem?_cons_succ] at f0 f1
        obtain ⟨x, hx⟩ : ∃ x, lessR 1 prev row co = x := ⟨_, rfl⟩
        have hxl : x.length = n := by rw [← hx, lessR_len, HRn.out]
        have HLe := Lib.hid (lessD_any 1 _ _ prev row co w3 (by decide) HE4.out.prv HE4.out.row (by rw [HRn.out]; omega) (by omega))
        rw [hx] at HLe
        unfold OwnEnd at HLe
        rw [hxl] at HLe
        have HFin := Lib.hid (HNx.out 1 HTg.out)
        rw [hx, HTb.out] at HFin
        have HXl := Lib.hid hxl
        clear hx hxl
        go_wp2_with fail
        refine HLe.out.mono ?_
        rintro e w5 ⟨A5, C5, rfl, hown5, hb5⟩
        obtain ⟨g6, cap6, w6, hrun6, hE6⟩ := HE4.out.more hb5 hown5 (by rw [HXl.out]; omega) (by rw [HXl.out]; omega)
        have g1 := (HBk2.out.below (HE4.out.then_below hb5).low (by have := HZ2.out; omega)).cell 0
        have hfinal := HFin.out
        rw [List.append_nil] at hfinal
        rw [hfinal] at hrun6 hE6
        have HE6 := Lib.hid hE6.shift
        clear hown5 hb5 hfinal hE6 g1
        go_wp2_with fail
        go_roundw
        case rel => exact ⟨j + 1, a + n, by omega, by go_num, HA2, by rw [HNp.out]; exact HE6, ⟨_, cc, by rw [HNp.out, HRn.out]⟩, ⟨_, cap6, rfl⟩⟩
        case measure => simp [intOf]; omega
      · obtain rfl : j = m := by omega
        have hsz : a = s.size := by rw [← HA.out]; exact HS.out.symm
        subst hsz
        have hcb := conv_back (v := .slice A2 no C2) (l := o) (by have := HE.out.out; rw [hno] at this ⊢; exact this)
        have HO := Lib.hid ho
        have HBf := Lib.hid (HB3.out.trans (HE.out.low.mono (by omega)))
        clear hprev ho hnp hno
        go_wp2_with fail
        go_ret2
        exact ⟨by rw [HO.out]; rfl, HBf.out⟩
  · have p1 : (2 : Int) < (pr : Int) := by omega
    have p3 : (((pr : Int) - 10) == 5) = false := beq_eq_false_iff_ne.2 (by omega)
    obtain ⟨tg, htg⟩ : ∃ tg, pr - 10 = tg := ⟨_, rfl⟩
    have htg2 : (pr : Int) - 10 = (tg : Int) := by omega
    have htg3 : tg < 5 := by omega
    rw [htg2] at p3
    have HTag : Hid (∀ prev row, tagOf pr prev row co = tg) := Lib.hid (fun prev row => by unfold tagOf; rw [if_neg (by omega), if_neg (by omega), htg])
    have HTb : Hid (∀ g, tagB pr g = [UInt8.ofNat g]) := Lib.hid (fun g => by unfold tagB; rw [if_neg (by omega)])
    clear htg
    clear hcase hpr
    go_enter Try.func9, Try.ntmps9
    go_wp2_with fail
    refine (HC.out _).mono ?_
    rintro e w1 ⟨rfl, hb⟩
    have HB2 := Lib.hid (HB1.out.trans (hb.mono (by omega)))
    have hBk1 := HBk.out.below hb HBk.out.lt
    have HBk1 := Lib.hid hBk1
    have d0 := hBk1.cell 0
    have d1 := hBk1.cell 1
    have d2 := hBk1.cell 2
    simp only [List.getElem?_toArray, List.getElem?_cons_zero, List.getElem?_cons_succ] at d0 d1 d2
    have HZ1 : Hid (N + 1 ≤ w1.heap.size) := Lib.hid (by have := hb.size; omega)
    clear hb hBk1 hW
    go_wp2_with fail
    refine (HRo.out _).mono ?_
    rintro e w2 ⟨rfl, hb⟩
    have HB3 := Lib.hid (HB2.out.trans (hb.mono (by have := HZ1.out; omega)))
    have HBk2 := Lib.hid (HBk1.out.below hb HBk1.out.lt)
    have HZ2 : Hid (N + 1 ≤ w2.heap.size) := Lib.hid (by have := hb.size; have := HZ1.out; omega)
    have e0 := HBk2.out.cell 0
    simp only [List.getElem?_toArray, List.getElem?_cons_zero] at e0
    clear hb d0 d1 d2
    go_wp2_with fail
    clear e0
    go_loopw [7, 8, 9] (fun pv ov av wr => ∃ j a : Nat, j ≤ m ∧ av = .int .i64 (a : Int) ∧ Hid (n * j = a) ∧ Hid (EncSt (N + 1) w2 wr pv pv ov (prevR n l j) (prevR n l j) (encR pr co n l j)) ∧ (∃ A C, pv = .slice A (prevR n l j).length C) ∧ ∃ A C, ov = .slice A (encR pr co n l j).length C) (fun _ _ av _ => s.size - (intOf av).toNat)
    case atStart => exact ⟨0, 0, by omega, rfl, Lib.hid rfl, Lib.hid (EncSt.start HZ2.out), ⟨none, 0, rfl⟩, ⟨none, 0, rfl⟩⟩
    case round =>
      obtain ⟨j, a, hj, rfl, HA, HE, ⟨A1, C1, rfl⟩, ⟨A2, C2, rfl⟩⟩ := hrel
      have HBw := Lib.hid (HBk2.out.below HE.out.low (by have := HZ2.out; omega))
      have e0 := HBw.out.cell 0
      have e1 := HBw.out.cell 1
      simp only [List.getElem?_toArray, List.getElem?_cons_zero, List.getElem?_cons_succ] at e0 e1
      obtain ⟨prev, hprev⟩ : ∃ x, prevR n l j = x := ⟨_, rfl⟩
      obtain ⟨o, ho⟩ : ∃ x, encR pr co n l j = x := ⟨_, rfl⟩
      have hol : o.length ≤ 20000 := by
        rw [← ho, encR_len HLl.out j hj]
        have h1 : tgs pr ≤ 1 := by unfold tgs; split <;> omega
        have h2 : (tgs pr + n) * j ≤ (1 + n) * m := Nat.mul_le_mul (by omega) hj
        have h3 : (1 + n) * m = m + n * m := by rw [Nat.add_mul, Nat.one_mul]
        have h4 := HS.out
        omega
      rw [hprev, ho] at HE
      obtain ⟨np, hnp⟩ : ∃ x, prev.length = x := ⟨_, rfl⟩
      obtain ⟨no, hno⟩ : ∃ x, o.length = x := ⟨_, rfl⟩
      rw [hprev]
      rw [ho]
      rw [hnp, hno]
      rw [hnp, hno] at HE
      by_cases hjm : j < m
      · have hfit : a + n ≤ s.size := by
          have h1 : n * (j + 1) ≤ n * m := Nat.mul_le_mul_left n hjm
          rw [Nat.mul_add, Nat.mul_one, HA.out] at h1
          have := HS.out
          omega
        have i1 : (a : Int) < (s.size : Int) := by omega
        have i2 : (0 : Int) ≤ (a : Int) := by omega
        have i3 : (a : Int) + (n : Int) ≤ (s.size : Int) := by omega
        have i4 : (a : Int) ≤ (a : Int) + (n : Int) := by omega
        have i5 : (0 : Int) ≤ (a : Int) + (n : Int) := by omega
        obtain ⟨R, hR⟩ : ∃ R, s.extract a (a + n) = R := ⟨_, rfl⟩
        obtain ⟨row, hrow⟩ : ∃ row, rowR n l j = row := ⟨_, rfl⟩
        have hRl : R.data.toList = row := by rw [← hR, extract_row HLs.out, ← hrow, ← HA.out]; rfl
        have hrn : row.length = n := by rw [← hrow]; exact rowR_len HLl.out hjm
        have hRs : R.size = n := by rw [← hrn, ← hRl]; simp
        obtain ⟨cc, X, ⟨fr, rfl⟩, hcv⟩ := conv_at R wr
        rw [hRs] at hcv
        have HE3 := HE.out.fresh (c := cc) (fr := fr) hRl
        rw [hRs] at HE3
        have HNx := Lib.hid (fun T => enc_next (T := T) (pr := pr) (co := co) hprev hrow ho)
        have HNp := Lib.hid (show prevR n l (j + 1) = row by rw [prevR_succ]; exact hrow)
        have HTg := Lib.hid (HTag.out prev row)
        have HRn := Lib.hid hrn
        have HNP := Lib.hid hnp
        have HNO := Lib.hid hno
        have hA2 : n * (j + 1) = a + n := by rw [Nat.mul_add, Nat.mul_one, HA.out]
        have HA2 := Lib.hid hA2
        obtain ⟨Hs, hHs⟩ : ∃ Hs, wr.heap.size = Hs := ⟨_, rfl⟩
        have HHs := Lib.hid hHs
        clear hA2 hrn hRl hrow hprev ho hnp hno
        go_upto_region 18 with fail
        obtain ⟨w3, hw3⟩ : ∃ w3, (wr.alloc (.cells (bytesRow R cc) 5 fr)).drew = w3 := ⟨_, rfl⟩
        have HE4 : Hid (EncSt (N + 1) w2 w3 (.slice A1 np C1) (.slice (some ⟨Hs, 0, none⟩) n cc) (.slice A2 no C2) prev row o) := Lib.hid (by rw [← hw3, ← hHs]; exact HE3)
        rw [hw3]
        clear hw3 hHs HE3 hcv
        have f0 := (HBk2.out.below HE4.out.low (by have := HZ2.out; omega)).cell 0
        have f1 := (HBk2.out.below HE4.out.low (by have := HZ2.out; omega)).cell 1
        simp only [List.getElem?_toArray, List.getElem?_cons_zero, List.getElem?_cons_succ] at f0 f1
        have hbt : ((UInt8.ofNat tg).toNat : Int) = (tg : Int) := by rw [UInt8.toNat_ofNat']; omega
        obtain ⟨g4, cap4, w4, hrun4, hE4⟩ := HE4.out.lit (UInt8.ofNat tg) (by omega)
        rw [hbt] at hrun4
        have HE5 := Lib.hid hE4
        obtain ⟨n1, hn1'⟩ : ∃ x, (o ++ [UInt8.ofNat tg]).length = x := ⟨_, rfl⟩
        rw [hn1'] at hrun4 HE5
        have hn1b : n1 ≤ 20001 := by rw [← hn1', List.length_append]; simp; omega
        have HN1 := Lib.hid hn1'
        have g0 := (HBk2.out.below HE5.out.low (by have := HZ2.out; omega)).cell 1
        simp only [List.getElem?_toArray, List.getElem?_cons_zero, List.getElem?_cons_succ] at g0
        clear hE4 hn1' hbt
        obtain ⟨x, hx⟩ : ∃ x, lessR tg prev row co = x := ⟨_, rfl⟩
        have hxl : x.length = n := by rw [← hx, lessR_len, HRn.out]
        have HLe := Lib.hid (lessD_any tg _ _ prev row co w4 htg3 HE5.out.prv HE5.out.row (by rw [HRn.out]; omega) (by omega))
        rw [hx] at HLe
        unfold OwnEnd at HLe
        rw [hxl] at HLe
        have HFin := Lib.hid (HNx.out tg HTg.out)
        rw [hx, HTb.out] at HFin
        have HXl := Lib.hid hxl
        clear hx hxl
        go_wp2_with fail
        refine HLe.out.mono ?_
        rintro e w5 ⟨A5, C5, rfl, hown5, hb5⟩
        obtain ⟨g6, cap6, w6, hrun6, hE6⟩ := HE5.out.more hb5 hown5 (by rw [HXl.out]; omega) (by rw [HXl.out]; rw [HN1.out]; omega)
        have g1 := (HBk2.out.below (HE5.out.then_below hb5).low (by have := HZ2.out; omega)).cell 0
        have hfinal := HFin.out
        skip
        rw [hfinal] at hrun6 hE6
        have HE6 := Lib.hid hE6.shift
        clear hown5 hb5 hfinal hE6 g1
        go_wp2_with fail
        go_roundw
        case rel => exact ⟨j + 1, a + n, by omega, by go_num, HA2, by rw [HNp.out]; exact HE6, ⟨_, cc, by rw [HNp.out, HRn.out]⟩, ⟨_, cap6, rfl⟩⟩
        case measure => simp [intOf]; omega
      · obtain rfl : j = m := by omega
        have hsz : a = s.size := by rw [← HA.out]; exact HS.out.symm
        subst hsz
        have hcb := conv_back (v := .slice A2 no C2) (l := o) (by have := HE.out.out; rw [hno] at this ⊢; exact this)
        have HO := Lib.hid ho
        have HBf := Lib.hid (HB3.out.trans (HE.out.low.mono (by omega)))
        clear hprev ho hnp hno
        go_wp2_with fail
        go_ret2
        exact ⟨by rw [HO.out]; rfl, HBf.out⟩
  · have p1 : (2 : Int) < (pr : Int) := by omega
    have htg2 : (pr : Int) - 10 = 5 := by omega
    have HTag : Hid (∀ prev row, tagOf pr prev row co = bestR prev row co) := Lib.hid (fun prev row => by unfold tagOf; rw [if_neg (by omega), if_pos (by omega)])
    have HTb : Hid (∀ g, tagB pr g = [UInt8.ofNat g]) := Lib.hid (fun g => by unfold tagB; rw [if_neg (by omega)])
    clear hcase hpr
    go_enter Try.func9, Try.ntmps9
    go_wp2_with fail
    refine (HC.out _).mono ?_
    rintro e w1 ⟨rfl, hb⟩
    have HB2 := Lib.hid (HB1.out.trans (hb.mono (by omega)))
    have hBk1 := HBk.out.below hb HBk.out.lt
    have HBk1 := Lib.hid hBk1
    have d0 := hBk1.cell 0
    have d1 := hBk1.cell 1
    have d2 := hBk1.cell 2
    simp only [List.getElem?_toArray, List.getElem?_cons_zero, List.getElem?_cons_succ] at d0 d1 d2
    have HZ1 : Hid (N + 1 ≤ w1.heap.size) := Lib.hid (by have := hb.size; omega)
    clear hb hBk1 hW
    go_wp2_with fail
    refine (HRo.out _).mono ?_
    rintro e w2 ⟨rfl, hb⟩
    have HB3 := Lib.hid (HB2.out.trans (hb.mono (by have := HZ1.out; omega)))
    have HBk2 := Lib.hid (HBk1.out.below hb HBk1.out.lt)
    have HZ2 : Hid (N + 1 ≤ w2.heap.size) := Lib.hid (by have := hb.size; have := HZ1.out; omega)
    have e0 := HBk2.out.cell 0
    simp only [List.getElem?_toArray, List.getElem?_cons_zero] at e0
    clear hb d0 d1 d2
    go_wp2_with fail
    clear e0
    go_loopw [7, 8, 9] (fun pv ov av wr => ∃ j a : Nat, j ≤ m ∧ av = .int .i64 (a : Int) ∧ Hid (n * j = a) ∧ Hid (EncSt (N + 1) w2 wr pv pv ov (prevR n l j) (prevR n l j) (encR pr co n l j)) ∧ (∃ A C, pv = .slice A (prevR n l j).length C) ∧ ∃ A C, ov = .slice A (encR pr co n l j).length C) (fun _ _ av _ => s.size - (intOf av).toNat)
    case atStart => exact ⟨0, 0, by omega, rfl, Lib.hid rfl, Lib.hid (EncSt.start HZ2.out), ⟨none, 0, rfl⟩, ⟨none, 0, rfl⟩⟩
    case round =>
      obtain ⟨j, a, hj, rfl, HA, HE, ⟨A1, C1, rfl⟩, ⟨A2, C2, rfl⟩⟩ := hrel
      have HBw := Lib.hid (HBk2.out.below HE.out.low (by have := HZ2.out; omega))
      have e0 := HBw.out.cell 0
      have e1 := HBw.out.cell 1
      simp only [List.getElem?_toArray, List.getElem?_cons_zero, List.getElem?_cons_succ] at e0 e1
      obtain ⟨prev, hprev⟩ : ∃ x, prevR n l j = x := ⟨_, rfl⟩
      obtain ⟨o, ho⟩ : ∃ x, encR pr co n l j = x := ⟨_, rfl⟩
      have hol : o.length ≤ 20000 := by
        rw [← ho, encR_len HLl.out j hj]
        have h1 : tgs pr ≤ 1 := by unfold tgs; split <;> omega
        have h2 : (tgs pr + n) * j ≤ (1 + n) * m := Nat.mul_le_mul (by omega) hj
        have h3 : (1 + n) * m = m + n * m := by rw [Nat.add_mul, Nat.one_mul]
        have h4 := HS.out
        omega
      rw [hprev, ho] at HE
      obtain ⟨np, hnp⟩ : ∃ x, prev.length = x := ⟨_, rfl⟩
      obtain ⟨no, hno⟩ : ∃ x, o.length = x := ⟨_, rfl⟩
      rw [hprev]
      rw [ho]
      rw [hnp, hno]
      rw [hnp, hno] at HE
      by_cases hjm : j < m
      · have hfit : a + n ≤ s.size := by
          have h1 : n * (j + 1) ≤ n * m := Nat.mul_le_mul_left n hjm
          rw [Nat.mul_add, Nat.mul_one, HA.out] at h1
          have := HS.out
          omega
        have i1 : (a : Int) < (s.size : Int) := by omega
        have i2 : (0 : Int) ≤ (a : Int) := by omega
        have i3 : (a : Int) + (n : Int) ≤ (s.size : Int) := by omega
        have i4 : (a : Int) ≤ (a : Int) + (n : Int) := by omega
        have i5 : (0 : Int) ≤ (a : Int) + (n : Int) := by omega
        obtain ⟨R, hR⟩ : ∃ R, s.extract a (a + n) = R := ⟨_, rfl⟩
        obtain ⟨row, hrow⟩ : ∃ row, rowR n l j = row := ⟨_, rfl⟩
        have hRl : R.data.toList = row := by rw [← hR, extract_row HLs.out, ← hrow, ← HA.out]; rfl
        have hrn : row.length = n := by rw [← hrow]; exact rowR_len HLl.out hjm
        have hRs : R.size = n := by rw [← hrn, ← hRl]; simp
        obtain ⟨cc, X, ⟨fr, rfl⟩, hcv⟩ := conv_at R wr
        rw [hRs] at hcv
        have HE3 := HE.out.fresh (c := cc) (fr := fr) hRl
        rw [hRs] at HE3
        have HNx := Lib.hid (fun T => enc_next (T := T) (pr := pr) (co := co) hprev hrow ho)
        have HNp := Lib.hid (show prevR n l (j + 1) = row by rw [prevR_succ]; exact hrow)
        have HTg := Lib.hid (HTag.out prev row)
        have HRn := Lib.hid hrn
        have HNP := Lib.hid hnp
        have HNO := Lib.hid hno
        have hA2 : n * (j + 1) = a + n := by rw [Nat.mul_add, Nat.mul_one, HA.out]
        have HA2 := Lib.hid hA2
        obtain ⟨Hs, hHs⟩ : ∃ Hs, wr.heap.size = Hs := ⟨_, rfl⟩
        have HHs := Lib.hid hHs
        clear hA2 hrn hRl hrow hprev ho hnp hno
        go_upto_region 18 with fail
        obtain ⟨w3, hw3⟩ : ∃ w3, (wr.alloc (.cells (bytesRow R cc) 5 fr)).drew = w3 := ⟨_, rfl⟩
        have HE4 : Hid (EncSt (N + 1) w2 w3 (.slice A1 np C1) (.slice (some ⟨Hs, 0, none⟩) n cc) (.slice A2 no C2) prev row o) := Lib.hid (by rw [← hw3, ← hHs]; exact HE3)
        rw [hw3]
        clear hw3 hHs HE3 hcv
        have f0 := (HBk2.out.below HE4.out.low (by have := HZ2.out; omega)).cell 0
        have f1 := (HBk2.out.below HE4.out.low (by have := HZ2.out; omega)).cell 1
        simp only [List.getElem?_toArray, List.getElem?_cons_zero, List.getElem?_cons_succ] at f0 f1
        obtain ⟨tg, htg⟩ : ∃ tg, bestR prev row co = tg := ⟨_, rfl⟩
        have htg3 : tg < 5 := by rw [← htg]; exact bestR_lt _ _ _
        have HBe := Lib.hid (bestD_any _ _ prev row co w3 HE4.out.prv HE4.out.row (by rw [HRn.out]; omega) (by omega))
        rw [htg] at HBe HTg
        clear htg
        go_wp2_with fail
        refine HBe.out.mono ?_
        rintro e w3b ⟨rfl, hb3⟩
        have HE4b := Lib.hid (HE4.out.then_below hb3)
        clear hb3 f0 f1
        have hbt : ((UInt8.ofNat tg).toNat : Int) = (tg : Int) := by rw [UInt8.toNat_ofNat']; omega
        obtain ⟨g4, cap4, w4, hrun4, hE4⟩ := HE4b.out.lit (UInt8.ofNat tg) (by omega)
        rw [hbt] at hrun4
        have HE5 := Lib.hid hE4
        obtain ⟨n1, hn1'⟩ : ∃ x, (o ++ [UInt8.ofNat tg]).length = x := ⟨_, rfl⟩
        rw [hn1'] at hrun4 HE5
        have hn1b : n1 ≤ 20001 := by rw [← hn1', List.length_append]; simp; omega
        have HN1 := Lib.hid hn1'
        have g0 := (HBk2.out.below HE5.out.low (by have := HZ2.out; omega)).cell 1
        simp only [List.getElem?_toArray, List.getElem?_cons_zero, List.getElem?_cons_succ] at g0
        clear hE4 hn1' hbt
        obtain ⟨x, hx⟩ : ∃ x, lessR tg prev row co = x := ⟨_, rfl⟩
        have hxl : x.length = n := by rw [← hx, lessR_len, HRn.out]
        have HLe := Lib.hid (lessD_any tg _ _ prev row co w4 htg3 HE5.out.prv HE5.out.row (by rw [HRn.out]; omega) (by omega))
        rw [hx] at HLe
        unfold OwnEnd at HLe
        rw [hxl] at HLe
        have HFin := Lib.hid (HNx.out tg HTg.out)
        rw [hx, HTb.out] at HFin
        have HXl := Lib.hid hxl
        clear hx hxl
        go_wp2_with fail
        refine HLe.out.mono ?_
        rintro e w5 ⟨A5, C5, rfl, hown5, hb5⟩
        obtain ⟨g6, cap6, w6, hrun6, hE6⟩ := HE5.out.more hb5 hown5 (by rw [HXl.out]; omega) (by rw [HXl.out]; rw [HN1.out]; omega)
        have g1 := (HBk2.out.below (HE5.out.then_below hb5).low (by have := HZ2.out; omega)).cell 0
        have hfinal := HFin.out
        skip
        rw [hfinal] at hrun6 hE6
        have HE6 := Lib.hid hE6.shift
        clear hown5 hb5 hfinal hE6 g1
        go_wp2_with fail
        go_roundw
        case rel => exact ⟨j + 1, a + n, by omega, by go_num, HA2, by rw [HNp.out]; exact HE6, ⟨_, cc, by rw [HNp.out, HRn.out]⟩, ⟨_, cap6, rfl⟩⟩
        case measure => simp [intOf]; omega
      · obtain rfl : j = m := by omega
        have hsz : a = s.size := by rw [← HA.out]; exact HS.out.symm
        subst hsz
        have hcb := conv_back (v := .slice A2 no C2) (l := o) (by have := HE.out.out; rw [hno] at this ⊢; exact this)
        have HO := Lib.hid ho
        have HBf := Lib.hid (HB3.out.trans (HE.out.low.mono (by omega)))
        clear hprev ho hnp hno
        go_wp2_with fail
        go_ret2
        exact ⟨by rw [HO.out]; rfl, HBf.out⟩
end Go.Proofs.Ythdjocbpnmjbgaa
