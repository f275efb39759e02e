/-
  The document's Encode, walked over its rows.
-/
import Derived.Test.YticliemmplefoaaPrdF
namespace Go.Proofs.Yticliemmplefoaa
open Go.RowKit Oct Prd
attribute [-go_sem] Builtin.append_

/-- The row pv lies in memory, and not where the row v lies. -/
def Apart (W : World) (pv v : Value) : Prop := ∀ A n C, pv = .slice (some A) n C → A.block < W.heap.size ∧ v.ownBlock ≠ some A.block
/-- A coder's memory: the row before, the row, and what there is of the result. -/
structure EncSt (M : Nat) (W wx : World) (pv rv ov : Value) (prev row o : List UInt8) : Prop where
  low : Below M W wx
  base : M ≤ wx.heap.size
  out : wx.ownsRow M 5 1 ov o.length (bC o)
  prv : IsRow wx pv prev
  row : IsRow wx rv row
  ap1 : Apart wx pv ov
  ap2 : Apart wx rv ov
theorem EncSt.then_below {M : Nat} {W wx wy : World} {pv rv ov : Value} {prev row o : List UInt8} (h : EncSt M W wx pv rv ov prev row o) (hb : Below wx.heap.size wx wy) : EncSt M W wy pv rv ov prev row o :=
  ⟨h.low.trans (hb.mono h.base), Nat.le_trans h.base hb.size, h.out.kept (row := none) ⟨hb.os, hb.tape, hb.output, hb.size, fun k hk _ => hb.block k hk⟩ (by cases ov.ownBlock <;> simp),
    h.prv.below (Nat.le_refl _) hb, h.row.below (Nat.le_refl _) hb, fun A n C e => ⟨Nat.lt_of_lt_of_le (h.ap1 A n C e).1 hb.size, (h.ap1 A n C e).2⟩, fun A n C e => ⟨Nat.lt_of_lt_of_le (h.ap2 A n C e).1 hb.size, (h.ap2 A n C e).2⟩⟩
theorem IsRow.grown {W W' : World} {v : Value} {l : List UInt8} {r : Option Nat} (h : IsRow W v l) (hg : W.grownBy W' r) (hne : ∀ A n C, v = .slice (some A) n C → r ≠ some A.block) : IsRow W' v l := by
  obtain ⟨A, C, rfl, h2⟩ := h
  refine ⟨A, C, rfl, fun j hj => ?_⟩
  obtain ⟨b, o, h3, h4⟩ := h2 j hj
  refine ⟨b, o, h3, ?_⟩
  rw [hg.cell_far ⟨b, o + j, none⟩ (World.block_lt_of_cell? W _ h4) (fun e => hne ⟨b, o, none⟩ l.length C (by rw [h3]) e.symm)]
  exact h4
theorem EncSt.then_append {M g cap : Nat} {W wx wy : World} {pv rv ov : Value} {prev row o o2 : List UInt8} (h : EncSt M W wx pv rv ov prev row o) (hg : wx.grownBy wy ov.ownBlock)
    (hown : wy.ownsRow M 5 1 (.slice (some ⟨g, 0, none⟩) o2.length cap) o2.length (bC o2)) (hat : ov.ownBlock = some g ∨ g = wx.heap.size) : EncSt M W wy pv rv (.slice (some ⟨g, 0, none⟩) o2.length cap) prev row o2 := by
  have hap : ∀ u, Apart wx u ov → Apart wy u (.slice (some ⟨g, 0, none⟩) o2.length cap) := fun u hu A n C e => by
    obtain ⟨h1, h2⟩ := hu A n C e
    refine ⟨Nat.lt_of_lt_of_le h1 hg.size, fun e2 => ?_⟩
    have e3 : g = A.block := by injection e2
    rcases hat with h3 | h3
    · exact h2 (by rw [h3, e3])
    · omega
  exact ⟨h.low.grown hg h.base (fun k hk => (h.out.lt k hk).1), Nat.le_trans h.base hg.size, hown, h.prv.grown hg (fun A n C e => (h.ap1 A n C e).2), h.row.grown hg (fun A n C e => (h.ap2 A n C e).2), hap _ h.ap1, hap _ h.ap2⟩
theorem addr_add (b o j : Nat) : ((⟨b, o, none⟩ : Addr).add j) = ⟨b, o + j, none⟩ := by unfold Addr.add; split <;> simp_all
/-- Appending a row that is read to a row of the call's own. -/
theorem app_row (W : World) (M : Nat) (v rv : Value) (o l : List UInt8) (ho : W.ownsRow M 5 1 v o.length (bC o)) (hr : IsRow W rv l) (hl : 0 < l.length) (hb : o.length + l.length ≤ 1000000000) (hM : M ≤ W.heap.size) :
    ∃ g cap W', Sem.run Try.prog (Builtin.append_ #[42, 42] 42 #[v, rv]) W = .ok (.slice (some ⟨g, 0, none⟩) (o ++ l).length cap) W' ∧
      W'.ownsRow M 5 1 (.slice (some ⟨g, 0, none⟩) (o ++ l).length cap) (o ++ l).length (bC (o ++ l)) ∧ W.grownBy W' v.ownBlock ∧ (v.ownBlock = some g ∨ g = W.heap.size) := by
  obtain ⟨i5, hi, hz0, hz1, hz2⟩ := info_parts binfo
  obtain ⟨b, ofs, C, rfl, hc⟩ := hr.at0 hl
  obtain ⟨g, cap, W', h1, h2, h3, h4, _⟩ := run_append_lies (P := Try.prog) W 42 42 M 5 i5 (.int .u8 0) 1 1 Try.underlying42 hi hz0 hz1 hz2 rfl (by decide) v o.length (bC o) ho ⟨b, ofs, none⟩ l.length C (bC l) (by rw [bC_len]; omega)
    (fun j u hu => by
      have hj : j < l.length := by
        rcases Nat.lt_or_ge j l.length with h | h
        · exact h
        · rw [List.getElem?_eq_none (by rw [bC_len]; exact h)] at hu; cases hu
      rw [bC_at l j hj] at hu
      rw [addr_add, hc j hj]
      exact hu) (fun u hu => by
      unfold bC at hu
      obtain ⟨x, _, rfl⟩ := List.mem_map.1 hu
      rfl) hl (by unfold maxLen; omega) (by omega) hM W.heap.size rfl
  rw [List.length_append, bC_app]
  exact ⟨g, cap, W', h1, h2, h3, h4⟩
theorem conv_back {W : World} {M : Nat} {v : Value} {l : List UInt8} (hown : W.ownsRow M 5 1 v l.length (bC l)) :
    Sem.run Try.prog (convert 42 9 v) W = .ok (.string ⟨l.toArray⟩) W := by
  rcases hown.2 with ⟨rfl, h0⟩ | ⟨g, cap, cur, rfl, _⟩
  · have hl : l = [] := List.eq_nil_of_length_eq_zero h0
    subst hl
    exact Lib.run_convert_nil_bytes W _ _ _ 0 Try.underlying42 Try.underlying5 Try.underlying9
  · refine run_convert_bytes_back W _ _ _ ⟨g, 0, none⟩ cap l Try.underlying42 Try.underlying5 Try.underlying9 fun j hj => ?_
    exact hown.cells (g := g) rfl j _ (by simp [bC, hj])
theorem extract_row {s : ByteArray} {l : List UInt8} (h : s.data.toList = l) (a n : Nat) : (s.extract a (a + n)).data.toList = (l.drop a).take n := by
  rw [ByteArray.data_extract, Array.toList_extract, h, List.extract_eq_take_drop, show a + n - a = n by omega]
/-- The memory behind the conversion of a row's text. -/
theorem EncSt.fresh {M c : Nat} {W wx : World} {pv ov : Value} {prev o : List UInt8} {R : ByteArray} {row : List UInt8} {fr : Nat × Nat} {pr0 : Value} {r0 : List UInt8} (h : EncSt M W wx pv pr0 ov prev r0 o) (hR : R.data.toList = row) :
    EncSt M W (wx.drew.alloc (.cells (bytesRow R c) 5 fr)) pv (.slice (some ⟨wx.heap.size, 0, none⟩) R.size c) ov prev row o := by
  subst hR
  have hb : Below wx.heap.size wx (wx.drew.alloc (.cells (bytesRow R c) 5 fr)) := ((Below.refl _ wx).drew).alloc (Nat.le_refl _) _
  have h2 := h.then_below hb
  refine ⟨h2.low, h2.base, h2.out, h2.prv, IsRow.bytes (heap_alloc_new wx.drew _), h2.ap1, fun A n C e => ?_⟩
  injection e with e1 e2 e3
  injection e1 with e1
  subst e1
  refine ⟨by show wx.heap.size < _; rw [World.size_alloc]; show wx.heap.size < wx.heap.size + 1; omega, fun e2 => ?_⟩
  have := (h.out.lt _ e2).2
  exact absurd this (Nat.lt_irrefl _)
theorem EncSt.shift {M : Nat} {W wx : World} {pv rv ov : Value} {prev row o : List UInt8} (h : EncSt M W wx pv rv ov prev row o) : EncSt M W wx rv rv ov row row o := ⟨h.low, h.base, h.out, h.row, h.row, h.ap2, h.ap2⟩
theorem EncSt.start {M : Nat} {W : World} (hM : M ≤ W.heap.size) : EncSt M W W (.slice none 0 0) (.slice none 0 0) (.slice none 0 0) [] [] [] :=
  ⟨Below.refl _ _, hM, World.ownsRow_nil _ _ _ _, IsRow.nil _, IsRow.nil _, fun A n C e => (by cases e), fun A n C e => (by cases e)⟩
theorem EncSt.slice {M : Nat} {W wx : World} {pv rv ov : Value} {prev row o : List UInt8} (h : EncSt M W wx pv rv ov prev row o) : ∃ A C, ov = .slice A o.length C := own_form h.out
theorem row_slice {W : World} {v : Value} {l : List UInt8} (h : IsRow W v l) : ∃ A C, v = .slice A l.length C := by
  obtain ⟨A, C, h, _⟩ := h
  exact ⟨A, C, h⟩
theorem EncSt.lit {M : Nat} {W wx : World} {pv rv ov : Value} {prev row o : List UInt8} (b : UInt8) (h : EncSt M W wx pv rv ov prev row o) (ho : o.length ≤ 1000000) :
    ∃ g cap wy, Sem.run Try.prog (Builtin.append_ #[42, 42] 42 #[ov, .slice (some ⟨wx.heap.size, 0, none⟩) 1 1]) (wx.alloc (.cells #[.int .u8 (b.toNat : Int)] 5)) = .ok (.slice (some ⟨g, 0, none⟩) (o ++ [b]).length cap) wy ∧
      EncSt M W wy pv rv (.slice (some ⟨g, 0, none⟩) (o ++ [b]).length cap) prev row (o ++ [b]) := by
  have h2 := h.then_below ((Below.refl wx.heap.size wx).alloc (Nat.le_refl _) (.cells #[.int .u8 (b.toNat : Int)] 5))
  have hr : IsRow (wx.alloc (.cells #[.int .u8 (b.toNat : Int)] 5)) (.slice (some ⟨wx.heap.size, 0, none⟩) 1 1) [b] := by
    refine ⟨some ⟨wx.heap.size, 0, none⟩, 1, rfl, fun j hj => ⟨wx.heap.size, 0, rfl, ?_⟩⟩
    obtain rfl : j = 0 := by simpa using hj
    exact (Blk.new wx 5 #[.int .u8 (b.toNat : Int)]).cell 0
  obtain ⟨g, cap, wy, h3, h4, h5, h6⟩ := app_row (wx.alloc (.cells #[.int .u8 (b.toNat : Int)] 5)) M ov _ o [b] h2.out hr (by simp) (by simp; omega) h2.base
  exact ⟨g, cap, wy, h3, h2.then_append h5 h4 h6⟩
/-- Appending a row that a call has just made. -/
theorem EncSt.more {M n2 : Nat} {W wx wy : World} {pv rv ov lv : Value} {prev row o x : List UInt8} (h : EncSt M W wx pv rv ov prev row o) (hb : Below wx.heap.size wx wy) (hx : wy.ownsRow wx.heap.size 5 1 lv n2 (bC x)) (hx0 : 0 < x.length) (ho : o.length + x.length ≤ 1000000) :
    ∃ g cap wz, Sem.run Try.prog (Builtin.append_ #[42, 42] 42 #[ov, lv]) wy = .ok (.slice (some ⟨g, 0, none⟩) (o ++ x).length cap) wz ∧
      EncSt M W wz pv rv (.slice (some ⟨g, 0, none⟩) (o ++ x).length cap) prev row (o ++ x) := by
  have h2 := h.then_below hb
  obtain ⟨g, cap, wz, h3, h4, h5, h6⟩ := app_row wy M ov lv o x h2.out (IsRow.own hx) hx0 (by omega) h2.base
  exact ⟨g, cap, wz, h3, h2.then_append h5 h4 h6⟩
def tagB (pr tag : Nat) : List UInt8 := if pr < 10 then [] else [UInt8.ofNat tag]
theorem encOne_split (pr c : Nat) (prev row : List UInt8) : encOne pr c prev row = tagB pr (tagOf pr prev row c) ++ lessR (tagOf pr prev row c) prev row c := rfl
theorem enc_next {pr co n : Nat} {l prev row o : List UInt8} {j T : Nat} (h1 : prevR n l j = prev) (h2 : rowR n l j = row) (h3 : encR pr co n l j = o) (hT : tagOf pr prev row co = T) : (o ++ tagB pr T) ++ lessR T prev row co = encR pr co n l (j + 1) := by
  rw [encR_succ, h1, h2, h3, encOne_split, hT, List.append_assoc]

end Go.Proofs.Yticliemmplefoaa
