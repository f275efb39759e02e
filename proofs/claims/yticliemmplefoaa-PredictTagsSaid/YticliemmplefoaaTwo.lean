/-
  Two: what a call may turn that holds a struct (block g) and a row of the struct's own.
-/
import Derived.Test.YticliemmplefoaaBlk
import Derived.Laws.OwnMore
namespace Go.Proofs.Yticliemmplefoaa
open Go.RowKit

/-- What a call on a writer may turn: its block g, its row r, and new blocks. -/
structure Two (w w' : World) (g : Nat) (r : Option Nat) : Prop where
  os : w'.os = w.os
  tape : w'.tape = w.tape
  output : w'.output = w.output
  size : w.heap.size ≤ w'.heap.size
  block : ∀ k, k < w.heap.size → k ≠ g → some k ≠ r → w'.heap[k]? = w.heap[k]?
theorem Two.refl (w : World) (g : Nat) (r : Option Nat) : Two w w g r := ⟨rfl, rfl, rfl, Nat.le_refl _, fun _ _ _ _ => rfl⟩
theorem Two.drewN {w w' : World} {g : Nat} {r : Option Nat} (h : Two w w' g r) (n : Nat) : Two w (w'.drewN n) g r := ⟨h.os, h.tape, h.output, h.size, h.block⟩
theorem Two.trans {a b c : World} {g : Nat} {r r' : Option Nat} (h : Two a b g r) (k : Two b c g r') (hr : r' = r ∨ ∃ k, r' = some k ∧ a.heap.size ≤ k) : Two a c g r :=
  ⟨k.os.trans h.os, k.tape.trans h.tape, k.output.trans h.output, Nat.le_trans h.size k.size, fun i hi h1 h2 =>
    (k.block i (Nat.lt_of_lt_of_le hi h.size) h1 (fun e => by
      rcases hr with rfl | ⟨j, rfl, hj⟩
      · exact h2 e
      · injection e with e; omega)).trans (h.block i hi h1 h2)⟩
theorem Two.set_ {a w : World} {g : Nat} {r : Option Nat} (h : Two a w g r) (i : Nat) (u : Value) : Two a (w.setCell ⟨g, i, none⟩ u) g r :=
  h.trans ⟨rfl, rfl, rfl, by simp [World.setCell], fun k _ hne _ => Below.heap_setCell _ _ _ _ hne⟩ (Or.inl rfl)
theorem Two.row {a w : World} {g k : Nat} {r : Option Nat} (h : Two a w g r) (hk : some k = r ∨ a.heap.size ≤ k) (i : Nat) (u : Value) : Two a (w.setCell ⟨k, i, none⟩ u) g r :=
  h.trans (r' := some k) ⟨rfl, rfl, rfl, by simp [World.setCell], fun j _ _ hne => Below.heap_setCell _ _ _ _ (fun e => hne (by rw [e]))⟩ (by
    rcases hk with e | e
    · exact Or.inl e
    · exact Or.inr ⟨k, rfl, e⟩)
theorem Two.grown {a w w' : World} {g : Nat} {r r' : Option Nat} (h : Two a w g r) (hg : w.grownBy w' r') (hr : r' = r ∨ r' = none ∨ ∃ k, r' = some k ∧ a.heap.size ≤ k) : Two a w' g r :=
  ⟨hg.os.trans h.os, hg.tape.trans h.tape, hg.output.trans h.output, Nat.le_trans h.size hg.size, fun i hi h1 h2 =>
    (hg.block i (Nat.lt_of_lt_of_le hi h.size) (fun e => by
      rcases hr with rfl | rfl | ⟨j, rfl, hj⟩
      · exact h2 e
      · cases e
      · injection e with e; omega)).trans (h.block i hi h1 h2)⟩
theorem Two.alloc {a w : World} {g : Nat} {r : Option Nat} (h : Two a w g r) (o : Obj) : Two a (w.alloc o) g r := h.grown (World.grownBy_alloc w o none) (Or.inr (Or.inl rfl))
theorem Two.below {a w : World} {g B : Nat} {r : Option Nat} (h : Two a w g r) (hB : B ≤ a.heap.size) (hg : B ≤ g) (hr : ∀ k, r = some k → B ≤ k) : Below B a w :=
  ⟨h.os, h.tape, h.output, h.size, fun k hk => h.block k (by omega) (by omega) (fun e => by have := hr k e.symm; omega)⟩
theorem Two.blk {a w : World} {g g' : Nat} {r : Option Nat} {t : TypeId} {cs : Array Value} (h : Two a w g r) (hb : Blk a g' t cs) (h1 : g' ≠ g) (h2 : some g' ≠ r) : Blk w g' t cs := (h.block g' hb.lt h1 h2).trans hb

end Go.Proofs.Yticliemmplefoaa
