/-
  predict's recoded: the memory of its loop over rows.
-/
import Derived.Test.YticliemmplefoaaPrdL
import Derived.Test.YticliemmplefoaaPrdN
import Derived.Test.YticliemmplefoaaPrdO
namespace Go.Proofs.Yticliemmplefoaa
open Go.RowKit Oct Prd

/-- What a coder does for row k: st tells the row before and all that was made, or that it has given up. -/
def RowSpec (F : FuncId) (caps : Array Value) (bp ba bn pr co cl q m : Nat) (l : List UInt8) (st : Nat → Option (List UInt8 × List UInt8)) : Prop :=
  ∀ (b k : Nat) (prev all : List UInt8) (pv : Value) (W : World), k < m → st k = some (prev, all) → Coder W bp ba bn pr co cl pv prev → IsRow W (.slice (some ⟨b, q * k, none⟩) q q) (rowR q l k) →
    Calls Try.prog F (#[.slice (some ⟨b, q * k, none⟩) q q] ++ caps) W fun e W' =>
      (∃ prev' x pv', st (k + 1) = some (prev', all ++ x) ∧ 0 < x.length ∧ x.length ≤ q + 1 ∧ CoderEnd W bn x (fun W' => Blk W' bn 42 #[pv'] ∧ IsRow W' pv' prev' ∧ ∀ A n C, pv' = .slice (some A) n C → A.block = b ∨ W.heap.size ≤ A.block) e W') ∨
      (st (k + 1) = none ∧ e = gUp 3 ∧ Two W W' bn none)

/-- The memory of the loop over rows; X: the result's first block. -/
structure RecSt (w W : World) (F : FuncId) (caps : Array Value) (bp ba bn pr co cl q m X cap : Nat) (s : ByteArray) (k : Nat) (pv ov : Value) (prev all : List UInt8) : Prop where
  coder : Coder W bp ba bn pr co cl pv prev
  fn : Blk W (w.heap.size + 1) 37 #[.func (.func F) #[] caps]
  box : Blk W (X + 1) 42 #[ov]
  own : W.ownsRow X 5 1 ov all.length (bC all)
  place : ∀ g, ov.ownBlock = some g → g = X ∨ X + 6 < g
  data : ∃ fr, W.heap[X + 2]? = some (.cells (bytesRow s cap) 5 fr)
  bs : Blk W (X + 3) 42 #[.slice (some ⟨X + 2, 0, none⟩) (q * m) cap]
  bq : Blk W (X + 4) 3 #[.int .i64 (q : Int)]
  dd : W.heap[X + 5]? = some (.deferred (some []))
  frame : Two w W bn none
  size : X + 6 < W.heap.size
  low : bp < w.heap.size ∧ ba < w.heap.size ∧ bn < w.heap.size ∧ bp ≠ bn ∧ ba ≠ bn ∧ w.heap.size + 1 < X
  few : all.length ≤ (q + 1) * k

theorem RecSt.drewN {w W : World} {F : FuncId} {caps : Array Value} {bp ba bn pr co cl q m X cap : Nat} {s : ByteArray} {k : Nat} {pv ov : Value} {prev all : List UInt8} (h : RecSt w W F caps bp ba bn pr co cl q m X cap s k pv ov prev all) (d : Nat) :
    RecSt w (W.drewN d) F caps bp ba bn pr co cl q m X cap s k pv ov prev all :=
  ⟨⟨h.coder.parms, h.coder.fils, h.coder.box, h.coder.row⟩, h.fn, h.box, h.own, h.place, h.data, h.bs, h.bq, h.dd, h.frame.drewN d, h.size, h.low, h.few⟩
theorem IsRow.putObj {W : World} {v : Value} {l : List UInt8} (h : IsRow W v l) {L : Nat} {r : Loop} (hL : W.heap[L]? = some (.loop r)) (o : Obj) : IsRow (W.putObj L o) v l := by
  obtain ⟨A, C, rfl, h2⟩ := h
  refine ⟨A, C, rfl, fun j hj => ?_⟩
  obtain ⟨b, off, h3, h4⟩ := h2 j hj
  refine ⟨b, off, h3, ?_⟩
  rw [← h4]
  refine World.cell?_of_block (World.putObj_heap_other ?_)
  intro e
  have e' : b = L := e
  subst e'
  simp [World.cell?, hL] at h4
/-- The loop's record turns. -/
theorem RecSt.putObj {w W : World} {F : FuncId} {caps : Array Value} {bp ba bn pr co cl q m X cap : Nat} {s : ByteArray} {k : Nat} {pv ov : Value} {prev all : List UInt8} (h : RecSt w W F caps bp ba bn pr co cl q m X cap s k pv ov prev all) {r : Loop} (hL : W.heap[X + 6]? = some (.loop r)) (o : Obj) :
    RecSt w (W.putObj (X + 6) o) F caps bp ba bn pr co cl q m X cap s k pv ov prev all := by
  obtain ⟨l1, l2, l3, l4, l5, l6⟩ := h.low
  have blk : ∀ {b : Nat} {t : TypeId} {cs : Array Value}, Blk W b t cs → b ≠ X + 6 → Blk (W.putObj (X + 6) o) b t cs := fun hb hne => (World.putObj_heap_other hne).trans hb
  have hown : (W.putObj (X + 6) o).ownsRow X 5 1 ov all.length (bC all) := h.own.kept (grownBy_putObj' W (X + 6) o) (by
    cases hv : ov.ownBlock with
    | none => exact .inl rfl
    | some g =>
      refine .inr fun e => ?_
      injection e with e
      have := h.place g hv
      omega)
  exact ⟨⟨blk h.coder.parms (by omega), blk h.coder.fils (by omega), blk h.coder.box (by omega), h.coder.row.putObj hL o⟩, blk h.fn (by omega), blk h.box (by omega), hown, h.place,
    (by obtain ⟨fr, hf⟩ := h.data; exact ⟨fr, (World.putObj_heap_other (by omega)).trans hf⟩), blk h.bs (by omega), blk h.bq (by omega), (World.putObj_heap_other (by omega)).trans h.dd,
    ⟨h.frame.os, h.frame.tape, h.frame.output, by simpa using h.frame.size, fun i hi h1 h2 => (World.putObj_heap_other (by omega)).trans (h.frame.block i hi h1 h2)⟩, by simpa using h.size, h.low, h.few⟩
/-- One row more. -/
theorem RecSt.step {w W W5 : World} {F : FuncId} {caps : Array Value} {bp ba bn pr co cl q m X cap : Nat} {s : ByteArray} {k : Nat} {pv ov pv' xv : Value} {prev all prev' x : List UInt8} (h : RecSt w W F caps bp ba bn pr co cl q m X cap s k pv ov prev all)
    (hT : Two W W5 bn none) (hx : IsRow W5 xv x) (hbx : Blk W5 bn 42 #[pv']) (hp : IsRow W5 pv' prev') (hpa : ∀ A n C, pv' = .slice (some A) n C → A.block = X + 2 ∨ W.heap.size ≤ A.block) (hx0 : 0 < x.length) (hxl : x.length ≤ q + 1) (hb : all.length + x.length ≤ 1000000) :
    ∃ g cap' W6, Sem.run Try.prog (Builtin.append_ #[42, 42] 42 #[ov, xv]) W5 = .ok (.slice (some ⟨g, 0, none⟩) (all ++ x).length cap') W6 ∧ W5.cell? ⟨X + 1, 0, none⟩ = some ov ∧ W6.cell? ⟨X + 1, 0, none⟩ = some ov ∧ W6.frozen? ⟨X + 1, 0, none⟩ = false ∧
      RecSt w (W6.setCell ⟨X + 1, 0, none⟩ (.slice (some ⟨g, 0, none⟩) (all ++ x).length cap')) F caps bp ba bn pr co cl q m X cap s (k + 1) pv' (.slice (some ⟨g, 0, none⟩) (all ++ x).length cap') prev' (all ++ x) ∧
      (∀ r, W.heap[X + 6]? = some (.loop r) → (W6.setCell ⟨X + 1, 0, none⟩ (.slice (some ⟨g, 0, none⟩) (all ++ x).length cap')).heap[X + 6]? = some (.loop r)) := by
  obtain ⟨l1, l2, l3, l4, l5, l6⟩ := h.low
  have hsz := h.size
  have hov : ∀ g, ov.ownBlock = some g → (g = X ∨ X + 6 < g) ∧ g < W.heap.size := fun g hg => ⟨h.place g hg, (h.own.lt g hg).2⟩
  have own5 : W5.ownsRow X 5 1 ov all.length (bC all) := h.own.kept (row := some bn) ⟨hT.os, hT.tape, hT.output, hT.size, fun i hi hne => hT.block i hi (fun e => hne (by rw [e])) (by simp)⟩ (by
    cases hv : ov.ownBlock with
    | none => exact .inl rfl
    | some g =>
      refine .inr fun e => ?_
      injection e with e
      have := hov g hv
      omega)
  obtain ⟨g, cap', W6, hrun, hown6, hgrow, hat⟩ := app_row W5 X ov xv all x own5 hx hx0 (by omega) (by have := hT.size; omega)
  have keep5 : ∀ b, b < W.heap.size → b ≠ bn → W5.heap[b]? = W.heap[b]? := fun b h1 h2 => hT.block b h1 h2 (by simp)
  have keep6 : ∀ b, b < W5.heap.size → (∀ g, ov.ownBlock = some g → g ≠ b) → W6.heap[b]? = W5.heap[b]? := fun b h1 h2 => hgrow.block b h1 (fun e => h2 b e.symm rfl)
  have keep7 : ∀ (b : Nat) (u : Value), b ≠ X + 1 → (W6.setCell ⟨X + 1, 0, none⟩ u).heap[b]? = W6.heap[b]? := fun b u hb => Below.heap_setCell W6 ⟨X + 1, 0, none⟩ u b hb
  have far : ∀ (b : Nat) (u : Value), b < W.heap.size → b ≠ bn → (b < X ∨ X < b ∧ b ≤ X + 6) → b ≠ X + 1 → (W6.setCell ⟨X + 1, 0, none⟩ u).heap[b]? = W.heap[b]? := fun b u h1 h2 h3 h4 => by
    rw [keep7 b u h4, keep6 b (by have := hT.size; omega) (fun g' hg' => by have := (hov g' hg').1; omega), keep5 b h1 h2]
  have hbox5 : Blk W5 (X + 1) 42 #[ov] := (keep5 (X + 1) (by omega) (by omega)).trans h.box
  have hbox6 : Blk W6 (X + 1) 42 #[ov] := (keep6 (X + 1) hbox5.lt (fun g' hg' => by have := (hov g' hg').1; omega)).trans hbox5
  have hpl : g = X ∨ X + 6 < g := by
    rcases hat with h1 | h1
    · exact h.place g h1
    · have := hT.size
      omega
  obtain ⟨ov', hov'⟩ : ∃ u, Value.slice (some ⟨g, 0, none⟩) (all ++ x).length cap' = u := ⟨_, rfl⟩
  have hown7 : (W6.setCell ⟨X + 1, 0, none⟩ ov').ownsRow X 5 1 ov' (all ++ x).length (bC (all ++ x)) := by
    rw [← hov']
    refine hown6.kept (row := some (X + 1)) ⟨rfl, rfl, rfl, by simp [World.setCell], fun i hi hne => keep7 i _ (fun e => hne (by rw [e]))⟩ (.inr fun e => ?_)
    injection e with e
    have e' : g = X + 1 := e
    omega
  have hpv6 : IsRow W6 pv' prev' := hp.grown hgrow (fun A n C e e2 => by
    have h1 := hov _ e2
    rcases hpa A n C e with h2 | h2 <;> omega)
  have hpv7 : IsRow (W6.setCell ⟨X + 1, 0, none⟩ ov') pv' prev' := hpv6.set_far (fun A n C e => by rcases hpa A n C e with h2 | h2 <;> omega) 0 ov'
  have hbn7 : Blk (W6.setCell ⟨X + 1, 0, none⟩ ov') bn 42 #[pv'] := (keep7 bn ov' (by omega)).trans ((keep6 bn hbx.lt (fun g' hg' => by have := (hov g' hg').1; omega)).trans hbx)
  have hsz7 : W.heap.size ≤ (W6.setCell ⟨X + 1, 0, none⟩ ov').heap.size := by
    have h1 := hT.size
    have h2 := hgrow.size
    simp only [World.setCell, Array.size_modify]
    omega
  refine ⟨g, cap', W6, hrun, hbox5.cell 0, hbox6.cell 0, hbox6.frozen 0, ?_, ?_⟩
  · rw [hov']
    refine ⟨⟨(far bp ov' (by omega) l4 (by omega) (by omega)).trans h.coder.parms, (far ba ov' (by omega) l5 (by omega) (by omega)).trans h.coder.fils, hbn7, hpv7⟩, (far _ ov' (by omega) (by omega) (by omega) (by omega)).trans h.fn, ?_, hown7, ?_, ?_,
      (far _ ov' (by omega) (by omega) (by omega) (by omega)).trans h.bs, (far _ ov' (by omega) (by omega) (by omega) (by omega)).trans h.bq, (far _ ov' (by omega) (by omega) (by omega) (by omega)).trans h.dd, ?_, by omega, h.low, ?_⟩
    · exact hbox6.set_ 0 ov'
    · intro g' hg'
      rw [← hov'] at hg'
      have e : g = g' := by injection hg'
      rw [← e]
      exact hpl
    · obtain ⟨fr, hf⟩ := h.data
      exact ⟨fr, (far _ ov' (by omega) (by omega) (by omega) (by omega)).trans hf⟩
    · refine ((h.frame.trans hT (.inl rfl)).grown hgrow ?_).row (.inr (by omega)) 0 ov'
      cases hv : ov.ownBlock with
      | none => exact .inl rfl
      | some g' => exact .inr (.inr ⟨g', rfl, by have := (hov g' hv).1; omega⟩)
    · rw [List.length_append, Nat.mul_add, Nat.mul_one]
      have := h.few
      omega
  · intro r hr
    rw [hov']
    exact (far _ ov' (by omega) (by omega) (by omega) (by omega)).trans hr
end Go.Proofs.Yticliemmplefoaa
