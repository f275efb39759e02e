/-
  A writer in memory: its struct in a block, its bytes in a row of its own; and the walk that writes one bit.
-/
import Derived.Test.YtbgechfmbogbpaaBitWm
import Derived.Test.YtbgechfmbogbpaaBitD
import Derived.Test.YtbgechfmbogbpaaTwo
import Derived.Deep.AppendLies
import Derived.Deep.RegionHeld3
import Derived.Deep.DrawnRows
import Derived.OneCell
namespace Go.Proofs.Ytbgechfmbogbpaa
open Go.RowKit Bt

theorem info_u8 : (Try.prog.info? 5).map (fun i => (i.zero, i.size, i.bytes)) = some (some (.int .u8 0), 1, 1) := by kernel_rfl
def byteCells (l : List UInt8) : List Value := l.map fun b => .int .u8 (b.toNat : Int)
theorem byteCells_len (l : List UInt8) : (byteCells l).length = l.length := by unfold byteCells; rw [List.length_map]
theorem byteCells_append (l m : List UInt8) : byteCells (l ++ m) = byteCells l ++ byteCells m := List.map_append
theorem byteCells_set (l : List UInt8) (i x : Nat) (hx : x < 256) : (byteCells l).set i (.int .u8 (x : Int)) = byteCells (l.set i (UInt8.ofNat x)) := by
  unfold byteCells
  rw [List.map_set]
  congr 2
  simp
  omega
theorem byteCells_at (l : List UInt8) (i : Nat) (h : i < l.length) : (byteCells l)[i]? = some (.int .u8 (byt l i : Nat)) := by
  unfold byteCells byt
  rw [List.getElem?_map, List.getD_eq_getElem?_getD, List.getElem?_eq_getElem h]
  rfl

/-- A writer of the type T: its struct is block g, its bytes lie in row r, both from B on. -/
def Wr (T : TypeId) (B : Nat) (w : World) (g : Nat) (r : Option Nat) (l : List UInt8) (p : Nat) (o : Int) : Prop :=
  ∃ v : Value, Blk w g T #[v, .int .i64 (p : Int), .int .i64 o] ∧ w.ownsRow B 5 1 v l.length (byteCells l) ∧ v.ownBlock = r ∧ r ≠ some g ∧ B ≤ g
theorem Wr.row_in {T : TypeId} {B : Nat} {w : World} {g : Nat} {r : Option Nat} {l : List UInt8} {p : Nat} {o : Int} (h : Wr T B w g r l p o) : ∀ k, r = some k → B ≤ k ∧ k < w.heap.size := by
  obtain ⟨v, h1, h2, rfl, h4, h5⟩ := h
  exact h2.lt
/-- What a call on a writer leaves. -/
def Wrote (T : TypeId) (B : Nat) (w : World) (g : Nat) (r : Option Nat) (l : List UInt8) (p : Nat) (o : Int) (w' : World) : Prop :=
  ∃ r', (r' = r ∨ ∃ k, r' = some k ∧ w.heap.size ≤ k) ∧ Wr T B w' g r' l p o ∧ Two w w' g r
theorem Wrote.same {T : TypeId} {B : Nat} {w : World} {g : Nat} {r : Option Nat} {l : List UInt8} {p : Nat} {o : Int} (h : Wr T B w g r l p o) : Wrote T B w g r l p o w := ⟨r, Or.inl rfl, h, Two.refl _ _ _⟩
theorem Wrote.drewN {T : TypeId} {B : Nat} {w w1 : World} {g : Nat} {r : Option Nat} {l : List UInt8} {p : Nat} {o : Int} (h : Wrote T B w g r l p o w1) (n : Nat) : Wrote T B w g r l p o (w1.drewN n) := by
  obtain ⟨r', hr, hw, ht⟩ := h
  exact ⟨r', hr, hw, ht.drewN n⟩
theorem Wrote.then {T : TypeId} {B : Nat} {w w1 w2 : World} {g : Nat} {r r1 : Option Nat} {l : List UInt8} {p : Nat} {o : Int} (hr : r1 = r ∨ ∃ k, r1 = some k ∧ w.heap.size ≤ k) (ht : Two w w1 g r) (h : Wrote T B w1 g r1 l p o w2) : Wrote T B w g r l p o w2 := by
  obtain ⟨r', hr', hw, ht'⟩ := h
  refine ⟨r', ?_, hw, ht.trans ht' hr⟩
  rcases hr' with rfl | ⟨k, rfl, hk⟩
  · exact hr
  · exact Or.inr ⟨k, rfl, Nat.le_trans ht.size hk⟩
theorem Wr.set_part {T : TypeId} {B : Nat} {w : World} {g : Nat} {r : Option Nat} {l : List UInt8} {p : Nat} {o : Int} (h : Wr T B w g r l p o) (q : Nat) : Wr T B (w.setCell ⟨g, 1, none⟩ (.int .i64 (q : Int))) g r l q o := by
  obtain ⟨v, h1, h2, h3, h4, h5⟩ := h
  exact ⟨v, h1.set_ 1 _, ownsRow_setCell_other h2 (by rw [h3]; exact h4) _, h3, h4, h5⟩
theorem Wr.set_ord {T : TypeId} {B : Nat} {w : World} {g : Nat} {r : Option Nat} {l : List UInt8} {p : Nat} {o : Int} (h : Wr T B w g r l p o) (q : Int) : Wr T B (w.setCell ⟨g, 2, none⟩ (.int .i64 q)) g r l p q := by
  obtain ⟨v, h1, h2, h3, h4, h5⟩ := h
  exact ⟨v, h1.set_ 2 _, ownsRow_setCell_other h2 (by rw [h3]; exact h4) _, h3, h4, h5⟩
theorem Wrote.part {T : TypeId} {B : Nat} {w w1 : World} {g : Nat} {r : Option Nat} {l : List UInt8} {p : Nat} {o : Int} (h : Wrote T B w g r l p o w1) (q : Nat) : Wrote T B w g r l q o (w1.setCell ⟨g, 1, none⟩ (.int .i64 (q : Int))) := by
  obtain ⟨r', hr, hw, ht⟩ := h
  exact ⟨r', hr, hw.set_part q, ht.set_ 1 _⟩
theorem Wrote.ord {T : TypeId} {B : Nat} {w w1 : World} {g : Nat} {r : Option Nat} {l : List UInt8} {p : Nat} {o : Int} (h : Wrote T B w g r l p o w1) (q : Int) : Wrote T B w g r l p q (w1.setCell ⟨g, 2, none⟩ (.int .i64 q)) := by
  obtain ⟨r', hr, hw, ht⟩ := h
  exact ⟨r', hr, hw.set_ord q, ht.set_ 2 _⟩
/-- A row that has a cell: its value written out. -/
theorem Wr.form {T : TypeId} {B : Nat} {w : World} {g : Nat} {r : Option Nat} {l : List UInt8} {p : Nat} {o : Int} (h : Wr T B w g r l p o) (hl : 0 < l.length) :
    ∃ k cap, r = some k ∧ k ≠ g ∧ l.length ≤ cap ∧ cap ≤ maxLen ∧ Blk w g T #[.slice (some ⟨k, 0, none⟩) l.length cap, .int .i64 (p : Int), .int .i64 o] ∧ w.ownsRow B 5 1 (.slice (some ⟨k, 0, none⟩) l.length cap) l.length (byteCells l) ∧ B ≤ g := by
  obtain ⟨v, h1, h2, rfl, h4, h5⟩ := h
  rcases h2.2 with ⟨rfl, h0⟩ | ⟨k, cap, cur, rfl, hk, hh, hc, hm, _⟩
  · omega
  · exact ⟨k, cap, rfl, fun e => h4 (by rw [e]; rfl), hc, hm, h1, h2, h5⟩
end Go.Proofs.Ytbgechfmbogbpaa
