/-
  The lists of calls that the laws of bit take: a slice of structs of four cells, as it reads; and contracts of Raw, At and Left at given answers.
-/
import Derived.Test.YtkcnhdponcbjaaaBitP
import Derived.Deep.Slices
import Derived.Deep.Fields
import Derived.ChangeSame
import Derived.OpenShut
import Derived.ChangeMaps5
namespace Go.Proofs.Ytkcnhdponcbjaaa
open Go.ChangeShapes Go.WideShapes Go.RowKit Go.Deep Bt

structure Call where
  d : Int
  n : Int
  v : Int
  s : ByteArray
/-- A slice of calls, as it lies. -/
def Asked (w : World) (A : Option Addr) (xs : List Call) : Prop :=
  ∀ j (h : j < xs.length), ∃ b off : Nat, A = some ⟨b, off, none⟩ ∧ b < w.heap.size ∧ w.cell? ⟨b, off + j * 4, none⟩ = some (.int .i64 xs[j].d) ∧ w.cell? ⟨b, off + j * 4 + 1, none⟩ = some (.int .i64 xs[j].n) ∧
    w.cell? ⟨b, off + j * 4 + 2, none⟩ = some (.int .i64 xs[j].v) ∧ w.cell? ⟨b, off + j * 4 + 3, none⟩ = some (.string xs[j].s)
theorem Asked.below {w w' : World} {A : Option Addr} {xs : List Call} (h : Asked w A xs) (hb : Below w.heap.size w w') : Asked w' A xs := fun j hj => by
  obtain ⟨b, off, ha, hlt, h1, h2, h3, h4⟩ := h j hj
  exact ⟨b, off, ha, Nat.lt_of_lt_of_le hlt hb.size, (hb.cell (p := ⟨b, _, none⟩) hlt).trans h1, (hb.cell (p := ⟨b, _, none⟩) hlt).trans h2, (hb.cell (p := ⟨b, _, none⟩) hlt).trans h3, (hb.cell (p := ⟨b, _, none⟩) hlt).trans h4⟩


section
variable {H : Type} {enc : TypeId × Value → H} {P : Program} {w : World} {base : Nat} {spare : Nat → Bool} {held : Bool}
theorem open_slice_fields {t e : TypeId} {fs : Array Field} {fuel : Nat} {cs : List Value} {x : DataW H × List MemPlace} (ht : P.underlying t = some (.slice e)) (he : P.underlying e = some (.struct fs))
    (hone : oneCellFields P fs = true) (hC : P.cellsOf e = fs.size) (h : DataW.trod enc P w base spare held fuel t cs = some x) :
    (cs = [.slice none 0 0] ∧ x = (.nil, [])) ∨
    ∃ (a : Addr) (len cap m : Nat) (D : Nat → DataW H) (Pl : Nat → List MemPlace), cs = [.slice (some a) len cap] ∧ base ≤ a.block ∧ len ≤ cap ∧ cap ≤ maxLen ∧ m = (if spare a.block then cap else len) ∧
      x = (.slice ((List.range len).map D) ((List.range (m - len)).map fun j => D (len + j)), MemPlace.row a (m * fs.size) ++ (List.range m).flatMap Pl) ∧
      ∀ i, i < m → ∃ (ys : List (DataW H × List MemPlace)) (n : Nat), D i = .agg (ys.map (·.1)) ∧ Pl i = ys.flatMap (·.2) ∧ ys.length = fs.size ∧
        ∀ (j : Nat) (f : Field), fs[j]? = some f → ∃ (v : Value) (y : DataW H × List MemPlace), w.cell? (a.add (i * fs.size + j)) = some v ∧ ys[j]? = some y ∧ DataW.trod enc P w base spare held n f.type [v] = some y := by
  rcases open_slice ht h with h0 | ⟨a, len, cap, m, n, D, Pl, hcs, hb, hl, hm, hmm, hx, hi⟩
  · exact .inl h0
  · refine .inr ⟨a, len, cap, m, D, Pl, hcs, hb, hl, hm, hmm, by rw [hC] at hx; exact hx, fun i him => ?_⟩
    obtain ⟨cs', hc, ht'⟩ := hi i him
    rw [hC] at hc
    obtain ⟨ys, n', hn', hy, hlen, hyl, hf⟩ := DataW.trod_struct he ht'
    obtain ⟨_, hcl, hat⟩ := World.cells?_some hc
    simp only [Prod.mk.injEq] at hy
    refine ⟨ys, n', hy.1, hy.2, hyl, fun j f hj => ?_⟩
    obtain ⟨ho, hk⟩ := hone_of hone j f hj
    have hjl : j < fs.size := (Array.getElem?_eq_some_iff.1 hj).1
    have hcell := hat j hjl
    have hv : cs'[j]? = some (cs'[j]'(by omega)) := List.getElem?_eq_getElem (by omega)
    have h1 := hf j f hj
    rw [ho, hk] at h1
    have hone' : (cs'.drop j).take 1 = [cs'[j]'(by omega)] := by
      rw [List.drop_eq_getElem_cons (by omega)]
      rfl
    rw [hone'] at h1
    have hys : ys[j]? = some (ys[j]'(by omega)) := List.getElem?_eq_getElem (by omega)
    refine ⟨_, _, ?_, hys, h1.trans hys⟩
    rw [← Go.Deep.add_add, hcell, hv]
end


theorem rleft_c (g : Nat) (s : ByteArray) (a x : Nat) (o : Int) (w : World) (h : Rd 92 w g s a o) (h1 : a ≤ 8 * s.size) (hs : s.size ≤ 1000000000000000000) (hx : 8 * s.size - a = x) :
    Calls Try.prog 68 #[.pointer (some ⟨g, 0, none⟩)] w fun e w' => e = .returned (.int .i64 (x : Int)) ∧ ∃ k, w' = w.drewN k := by
  have e : ((8 * s.size : Nat) : Int) - a = (x : Int) := by omega
  rw [← e]
  exact rleft_any g s a o w h h1 hs
theorem qleft_c (g : Nat) (s : ByteArray) (a x : Nat) (o : Int) (w : World) (h : Rd 82 w g s a o) (h1 : a ≤ 8 * s.size) (hs : s.size ≤ 1000000000000000000) (hx : 8 * s.size - a = x) :
    Calls Try.prog 69 #[.pointer (some ⟨g, 0, none⟩)] w fun e w' => e = .returned (.int .i64 (x : Int)) ∧ ∃ k, w' = w.drewN k := by
  have e : ((8 * s.size : Nat) : Int) - a = (x : Int) := by omega
  rw [← e]
  exact qleft_any g s a o w h h1 hs
end Go.Proofs.Ytkcnhdponcbjaaa
