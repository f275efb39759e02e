/-
  A writer in memory: its struct in a block, its bytes in a row of its own; and the walk that writes one bit.
-/
import Derived.Test.YtcgejhlhbokpiaaBitWm
import Derived.Test.YtcgejhlhbokpiaaBitD
import Derived.Deep.AppendLies
import Derived.Deep.RegionHeld3
import Derived.Deep.DrawnRows
import Derived.OneCell
namespace Go.Proofs.Ytcgejhlhbokpiaa
open Go.RowKit Bt

theorem info_u8 : (Try.prog.info? 5).map (fun i => (i.zero, i.size, i.bytes)) = some (some (.int .u8 0), 1, 1) := by kernel_rfl
def byteCells (l : List UInt8) : List Value := l.map fun b => .int .u8 (b.toNat : Int)
theorem byteCells_len (l : List UInt8) : (byteCells l).length = l.length := by unfold byteCells; rw [List.length_map]
theorem byteCells_append (l m : List UInt8) : byteCells (l ++ m) = byteCells l ++ byteCells m := List.map_append
theorem byteCells_set (l : List UInt8) (i x : Nat) (hx : x < 256) : (byteCells l).set i (.int .u8 (x : Int)) = byteCells (l.set i (UInt8.ofNat x)) := by
  unfold byteCells
  rw [List.map_set]
  congr 2
  simp
  omega
theorem byteCells_at (l : List UInt8) (i : Nat) (h : i < l.length) : (byteCells l)[i]? = some (.int .u8 (byt l i : Nat)) := by
  unfold byteCells byt
  rw [List.getElem?_map, List.getD_eq_getElem?_getD, List.getElem?_eq_getElem h]
  rfl

/-- What a call on a writer may turn: its block g, its row r, and new blocks. -/
structure Two (w w' : World) (g : Nat) (r : Option Nat) : Prop where
  os : w'.os = w.os
  tape : w'.tape = w.tape
  output : w'.output = w.output
  size : w.heap.size ≤ w'.heap.size
  block : ∀ k, k < w.heap.size → k ≠ g → some k ≠ r → w'.heap[k]? = w.heap[k]?
theorem Two.refl (w : World) (g : Nat) (r : Option Nat) : Two w w g r := ⟨rfl, rfl, rfl, Nat.le_refl _, fun _ _ _ _ => rfl⟩
theorem Two.drewN {w w' : World} {g : Nat} {r : Option Nat} (h : Two w w' g r) (n : Nat) : Two w (w'.drewN n) g r := ⟨h.os, h.tape, h.output, h.size, h.block⟩
theorem Two.trans {a b c : World} {g : Nat} {r r' : Option Nat} (h : Two a b g r) (k : Two b c g r') (hr : r' = r ∨ ∃ k, r' = some k ∧ a.heap.size ≤ k) : Two a c g r :=
  ⟨k.os.trans h.os, k.tape.trans h.tape, k.output.trans h.output, Nat.le_trans h.size k.size, fun i hi h1 h2 =>
    (k.block i (Nat.lt_of_lt_of_le hi h.size) h1 (fun e => by
      rcases hr with rfl | ⟨j, rfl, hj⟩
      · exact h2 e
      · injection e with e; omega)).trans (h.block i hi h1 h2)⟩
theorem Two.set_ {a w : World} {g : Nat} {r : Option Nat} (h : Two a w g r) (i : Nat) (u : Value) : Two a (w.setCell ⟨g, i, none⟩ u) g r :=
  h.trans ⟨rfl, rfl, rfl, by simp [World.setCell], fun k _ hne _ => Below.heap_setCell _ _ _ _ hne⟩ (Or.inl rfl)
theorem Two.row {a w : World} {g k : Nat} {r : Option Nat} (h : Two a w g r) (hk : some k = r ∨ a.heap.size ≤ k) (i : Nat) (u : Value) : Two a (w.setCell ⟨k, i, none⟩ u) g r :=
  h.trans (r' := some k) ⟨rfl, rfl, rfl, by simp [World.setCell], fun j _ _ hne => Below.heap_setCell _ _ _ _ (fun e => hne (by rw [e]))⟩ (by
    rcases hk with e | e
    · exact Or.inl e
    · exact Or.inr ⟨k, rfl, e⟩)
theorem Two.grown {a w w' : World} {g : Nat} {r r' : Option Nat} (h : Two a w g r) (hg : w.grownBy w' r') (hr : r' = r ∨ r' = none ∨ ∃ k, r' = some k ∧ a.heap.size ≤ k) : Two a w' g r :=
  ⟨hg.os.trans h.os, hg.tape.trans h.tape, hg.output.trans h.output, Nat.le_trans h.size hg.size, fun i hi h1 h2 =>
    (hg.block i (Nat.lt_of_lt_of_le hi h.size) (fun e => by
      rcases hr with rfl | rfl | ⟨j, rfl, hj⟩
      · exact h2 e
      · cases e
      · injection e with e; omega)).trans (h.block i hi h1 h2)⟩
theorem Two.alloc {a w : World} {g : Nat} {r : Option Nat} (h : Two a w g r) (o : Obj) : Two a (w.alloc o) g r := h.grown (World.grownBy_alloc w o none) (Or.inr (Or.inl rfl))
theorem Two.below {a w : World} {g B : Nat} {r : Option Nat} (h : Two a w g r) (hB : B ≤ a.heap.size) (hg : B ≤ g) (hr : ∀ k, r = some k → B ≤ k) : Below B a w :=
  ⟨h.os, h.tape, h.output, h.size, fun k hk => h.block k (by omega) (by omega) (fun e => by have := hr k e.symm; omega)⟩
theorem Two.blk {a w : World} {g g' : Nat} {r : Option Nat} {t : TypeId} {cs : Array Value} (h : Two a w g r) (hb : Blk a g' t cs) (h1 : g' ≠ g) (h2 : some g' ≠ r) : Blk w g' t cs := (h.block g' hb.lt h1 h2).trans hb

/-- A writer of the type T: its struct is block g, its bytes lie in row r, both from B on. -/
def Wr (T : TypeId) (B : Nat) (w : World) (g : Nat) (r : Option Nat) (l : List UInt8) (p : Nat) (o : Int) : Prop :=
  ∃ v : Value, Blk w g T #[v, .int .i64 (p : Int), .int .i64 o] ∧ w.ownsRow B 5 1 v l.length (byteCells l) ∧ v.ownBlock = r ∧ r ≠ some g ∧ B ≤ g
theorem Wr.row_in {T : TypeId} {B : Nat} {w : World} {g : Nat} {r : Option Nat} {l : List UInt8} {p : Nat} {o : Int} (h : Wr T B w g r l p o) : ∀ k, r = some k → B ≤ k ∧ k < w.heap.size := by
  obtain ⟨v, h1, h2, rfl, h4, h5⟩ := h
  exact h2.lt
/-- What a call on a writer leaves. -/
def Wrote (T : TypeId) (B : Nat) (w : World) (g : Nat) (r : Option Nat) (l : List UInt8) (p : Nat) (o : Int) (w' : World) : Prop :=
  ∃ r', (r' = r ∨ ∃ k, r' = some k ∧ w.heap.size ≤ k) ∧ Wr T B w' g r' l p o ∧ Two w w' g r
theorem Wrote.same {T : TypeId} {B : Nat} {w : World} {g : Nat} {r : Option Nat} {l : List UInt8} {p : Nat} {o : Int} (h : Wr T B w g r l p o) : Wrote T B w g r l p o w := ⟨r, Or.inl rfl, h, Two.refl _ _ _⟩
theorem Wrote.drewN {T : TypeId} {B : Nat} {w w1 : World} {g : Nat} {r : Option Nat} {l : List UInt8} {p : Nat} {o : Int} (h : Wrote T B w g r l p o w1) (n : Nat) : Wrote T B w g r l p o (w1.drewN n) := by
  obtain ⟨r', hr, hw, ht⟩ := h
  exact ⟨r', hr, hw, ht.drewN n⟩
theorem Wrote.then {T : TypeId} {B : Nat} {w w1 w2 : World} {g : Nat} {r r1 : Option Nat} {l : List UInt8} {p : Nat} {o : Int} (hr : r1 = r ∨ ∃ k, r1 = some k ∧ w.heap.size ≤ k) (ht : Two w w1 g r) (h : Wrote T B w1 g r1 l p o w2) : Wrote T B w g r l p o w2 := by
  obtain ⟨r', hr', hw, ht'⟩ := h
  refine ⟨r', ?_, hw, ht.trans ht' hr⟩
  rcases hr' with rfl | ⟨k, rfl, hk⟩
  · exact hr
  · exact Or.inr ⟨k, rfl, Nat.le_trans ht.size hk⟩
theorem Wr.set_part {T : TypeId} {B : Nat} {w : World} {g : Nat} {r : Option Nat} {l : List UInt8} {p : Nat} {o : Int} (h : Wr T B w g r l p o) (q : Nat) : Wr T B (w.setCell ⟨g, 1, none⟩ (.int .i64 (q : Int))) g r l q o := by
  obtain ⟨v, h1, h2, h3, h4, h5⟩ := h
  exact ⟨v, h1.set_ 1 _, ownsRow_setCell_other h2 (by rw [h3]; exact h4) _, h3, h4, h5⟩
theorem Wr.set_ord {T : TypeId} {B : Nat} {w : World} {g : Nat} {r : Option Nat} {l : List UInt8} {p : Nat} {o : Int} (h : Wr T B w g r l p o) (q : Int) : Wr T B (w.setCell ⟨g, 2, none⟩ (.int .i64 q)) g r l p q := by
  obtain ⟨v, h1, h2, h3, h4, h5⟩ := h
  exact ⟨v, h1.set_ 2 _, ownsRow_setCell_other h2 (by rw [h3]; exact h4) _, h3, h4, h5⟩
theorem Wrote.part {T : TypeId} {B : Nat} {w w1 : World} {g : Nat} {r : Option Nat} {l : List UInt8} {p : Nat} {o : Int} (h : Wrote T B w g r l p o w1) (q : Nat) : Wrote T B w g r l q o (w1.setCell ⟨g, 1, none⟩ (.int .i64 (q : Int))) := by
  obtain ⟨r', hr, hw, ht⟩ := h
  exact ⟨r', hr, hw.set_part q, ht.set_ 1 _⟩
theorem Wrote.ord {T : TypeId} {B : Nat} {w w1 : World} {g : Nat} {r : Option Nat} {l : List UInt8} {p : Nat} {o : Int} (h : Wrote T B w g r l p o w1) (q : Int) : Wrote T B w g r l p q (w1.setCell ⟨g, 2, none⟩ (.int .i64 q)) := by
  obtain ⟨r', hr, hw, ht⟩ := h
  exact ⟨r', hr, hw.set_ord q, ht.set_ 2 _⟩
/-- A row that has a cell: its value written out. -/
theorem Wr.form {T : TypeId} {B : Nat} {w : World} {g : Nat} {r : Option Nat} {l : List UInt8} {p : Nat} {o : Int} (h : Wr T B w g r l p o) (hl : 0 < l.length) :
    ∃ k cap, r = some k ∧ k ≠ g ∧ l.length ≤ cap ∧ cap ≤ maxLen ∧ Blk w g T #[.slice (some ⟨k, 0, none⟩) l.length cap, .int .i64 (p : Int), .int .i64 o] ∧ w.ownsRow B 5 1 (.slice (some ⟨k, 0, none⟩) l.length cap) l.length (byteCells l) ∧ B ≤ g := by
  obtain ⟨v, h1, h2, rfl, h4, h5⟩ := h
  rcases h2.2 with ⟨rfl, h0⟩ | ⟨k, cap, cur, rfl, hk, hh, hc, hm, _⟩
  · omega
  · exact ⟨k, cap, rfl, fun e => h4 (by rw [e]; rfl), hc, hm, h1, h2, h5⟩
end Go.Proofs.Ytcgejhlhbokpiaa
