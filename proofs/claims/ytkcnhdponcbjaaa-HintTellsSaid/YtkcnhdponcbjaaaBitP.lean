/-
  Contracts of readers and writers at given answers, and what keeps them while others are called; the walk of lives.
-/
import Derived.Test.YtkcnhdponcbjaaaBitO
import Derived.Test.YtkcnhdponcbjaaaBitG
namespace Go.Proofs.Ytkcnhdponcbjaaa
open Go.RowKit Bt

theorem Rd.grown {T : TypeId} {w w' : World} {g : Nat} {s : ByteArray} {a : Nat} {o : Int} {row : Option Nat} (h : Rd T w g s a o) (hg : w.grownBy w' row) (hne : some g ≠ row) : Rd T w' g s a o := Blk.grown h hg hne
theorem Rd.now {T T' : TypeId} {w w' : World} {g g' : Nat} {s s' : ByteArray} {a a' : Nat} {o o' : Int} (h : Rd T w g s a o) (hg : Now T' w g' s' a' o' w') (hne : g ≠ g') : Rd T w' g s a o := h.grown hg.1 (fun e => hne (by injection e))
theorem Rd.two {T : TypeId} {w w' : World} {g g' : Nat} {r : Option Nat} {s : ByteArray} {a : Nat} {o : Int} (h : Rd T w g s a o) (ht : Two w w' g' r) (h1 : g ≠ g') (h2 : some g ≠ r) : Rd T w' g s a o := ht.blk h h1 h2
theorem Wr.grown {T : TypeId} {B : Nat} {w w' : World} {g : Nat} {r row : Option Nat} {l : List UInt8} {p : Nat} {o : Int} (h : Wr T B w g r l p o) (hg : w.grownBy w' row) (h1 : some g ≠ row) (h2 : r = none ∨ r ≠ row) : Wr T B w' g r l p o := by
  obtain ⟨v, k1, k2, k3, k4, k5⟩ := h
  exact ⟨v, k1.grown hg h1, k2.kept hg (by rw [k3]; exact h2), k3, k4, k5⟩
theorem Wr.now {T T' : TypeId} {B : Nat} {w w' : World} {g g' : Nat} {r : Option Nat} {l : List UInt8} {p : Nat} {o : Int} {s : ByteArray} {a : Nat} {o' : Int} (h : Wr T B w g r l p o) (hg : Now T' w g' s a o' w') (h1 : g ≠ g') (h2 : r ≠ some g') : Wr T B w' g r l p o :=
  h.grown hg.1 (fun e => h1 (by injection e)) (Or.inr h2)
theorem Wr.two {T : TypeId} {B : Nat} {w w' : World} {g g' : Nat} {r r' : Option Nat} {l : List UInt8} {p : Nat} {o : Int} (h : Wr T B w g r l p o) (ht : Two w w' g' r') (h1 : g ≠ g') (h2 : some g ≠ r') (h3 : r ≠ some g') (h4 : r = none ∨ r ≠ r') : Wr T B w' g r l p o := by
  obtain ⟨v, k1, k2, k3, k4, k5⟩ := h
  refine ⟨v, ht.blk k1 h1 h2, ⟨k2.1, ?_⟩, k3, k4, k5⟩
  rcases k2.2 with hn | ⟨k, cap, cur, rfl, hb, hgg, rest⟩
  · exact Or.inl hn
  · have hr : r = some k := k3.symm
    refine Or.inr ⟨k, cap, cur, rfl, hb, ?_, rest⟩
    rw [ht.block k (Array.getElem?_eq_some_iff.1 hgg).1 (fun e => h3 (by rw [hr, e])) (fun e => (h4.elim (fun e2 => by rw [hr] at e2; cases e2) (fun e2 => e2 (by rw [hr, e]))))]
    exact hgg
theorem Now.below {T : TypeId} {B : Nat} {w0 w w' : World} {g : Nat} {s : ByteArray} {a : Nat} {o : Int} (hb : Below B w0 w) (h : Now T w g s a o w') (hB : B ≤ w.heap.size) (hg : B ≤ g) : Below B w0 w' := hb.grown h.1 hB (fun k e => by injection e with e; omega)

def Ret2 (T : TypeId) (w : World) (g : Nat) (s : ByteArray) (a : Nat) (o : Int) (v : Value) (e : Ending) (w' : World) : Prop := e = .returned v ∧ Now T w g s a o w'

theorem high_c (g : Nat) (s : ByteArray) (a : Nat) (ord n V E : Int) (A : Nat) (O : Int) (w : World) (h : Rd 92 w g s a ord) (h1 : a ≤ 8 * s.size) (hs : s.size ≤ 1000000000000000000)
    (hV : rdV s.data.toList (8 * s.size) a ord n 2 = V) (hE : rdE (8 * s.size) a ord n 2 = E) (hA : rdAt (8 * s.size) a ord n 2 = A) (hO : rdOrd (8 * s.size) a ord n 2 = O) :
    Calls Try.prog 52 #[.pointer (some ⟨g, 0, none⟩), .int .i64 n] w (Ret2 92 w g s A O (.tuple #[.int .i64 V, .int .i64 E])) := by
  subst hV hE hA hO
  exact high_any g s a ord n w h h1 hs

theorem qhigh_c (g : Nat) (s : ByteArray) (a : Nat) (ord n V E : Int) (A : Nat) (O : Int) (w : World) (h : Rd 82 w g s a ord) (h1 : a ≤ 8 * s.size) (hs : s.size ≤ 1000000000000000000)
    (hV : rdV s.data.toList (8 * s.size) a ord n 2 = V) (hE : rdE (8 * s.size) a ord n 2 = E) (hA : rdAt (8 * s.size) a ord n 2 = A) (hO : rdOrd (8 * s.size) a ord n 2 = O) :
    Calls Try.prog 57 #[.pointer (some ⟨g, 0, none⟩), .int .i64 n] w (Ret2 82 w g s A O (.tuple #[.int .i64 V, .int .i64 E])) := by
  subst hV hE hA hO
  exact qhigh_any g s a ord n w h h1 hs

theorem rfrom_c (s : ByteArray) (N : Nat) (w : World) (hN : w.heap.size = N) :
    Calls Try.prog 49 #[.string s] w fun e w' => e = .returned (.pointer (some ⟨N, 0, none⟩)) ∧ w.grownBy w' none ∧ Rd 92 w' N s 0 0 ∧ w'.heap.size = N + 1 := by
  subst hN
  exact rfrom_any s w

theorem qfrom_c (s : ByteArray) (N : Nat) (w : World) (hN : w.heap.size = N) :
    Calls Try.prog 32 #[.string s] w fun e w' => e = .returned (.pointer (some ⟨N, 0, none⟩)) ∧ w.grownBy w' none ∧ Rd 82 w' N s 0 0 ∧ w'.heap.size = N + 1 := by
  subst hN
  exact qfrom_any s w

theorem whigh_c (B g : Nat) (r : Option Nat) (l L : List UInt8) (p P : Nat) (ord v n E O : Int) (w : World) (hll : l.length ≤ 900000) (hBw : B ≤ w.heap.size) (h : Wr 89 B w g r l p ord) (hf : Fit ord l p)
    (hE : wrE ord v n 2 = E) (hL : wrL l p ord v n 2 = L) (hP : wrP p ord v n 2 = P) (hO : wrO ord v n 2 = O) :
    Calls Try.prog 42 #[.pointer (some ⟨g, 0, none⟩), .int .i64 v, .int .i64 n] w fun e w' => e = .returned (.int .i64 E) ∧ Wrote 89 B w g r L P O w' := by
  subst hE hL hP hO
  exact whigh_any B g r l p ord v n w hll hBw h hf

theorem vhigh_c (B g : Nat) (r : Option Nat) (l L : List UInt8) (p P : Nat) (ord v n E O : Int) (w : World) (hll : l.length ≤ 900000) (hBw : B ≤ w.heap.size) (h : Wr 71 B w g r l p ord) (hf : Fit ord l p)
    (hE : wrE ord v n 2 = E) (hL : wrL l p ord v n 2 = L) (hP : wrP p ord v n 2 = P) (hO : wrO ord v n 2 = O) :
    Calls Try.prog 24 #[.pointer (some ⟨g, 0, none⟩), .int .i64 v, .int .i64 n] w fun e w' => e = .returned (.int .i64 E) ∧ Wrote 71 B w g r L P O w' := by
  subst hE hL hP hO
  exact vhigh_any B g r l p ord v n w hll hBw h hf

theorem wnew_c (B N : Nat) (w : World) (hB : B ≤ w.heap.size) (hN : w.heap.size = N) :
    Calls Try.prog 39 #[] w fun e w' => e = .returned (.pointer (some ⟨N, 0, none⟩)) ∧ w.grownBy w' none ∧ Wr 89 B w' N none [] 0 0 ∧ w'.heap.size = N + 1 := by
  subst hN
  exact wnew_any B w hB

theorem vnew_c (B N : Nat) (w : World) (hB : B ≤ w.heap.size) (hN : w.heap.size = N) :
    Calls Try.prog 23 #[] w fun e w' => e = .returned (.pointer (some ⟨N, 0, none⟩)) ∧ w.grownBy w' none ∧ Wr 71 B w' N none [] 0 0 ∧ w'.heap.size = N + 1 := by
  subst hN
  exact vnew_any B w hB

def cA : ByteArray := ⟨#[202]⟩
end Go.Proofs.Ytkcnhdponcbjaaa
