/-
  Rows of hints that a call owns: their cells, the literals, and what an append makes of them.
-/
import Derived.Test.YtkcnhdponcbjaaaHntTp
import Derived.Deep.AppendLies
import Derived.Laws.OwnMore
namespace Go.Proofs.Ytkcnhdponcbjaaa
open Go.RowKit Bt Hnt

/-- The cells of hints. -/
def hC (l : List H3) : List Value := l.flatMap fun h => [.int .i64 h.1, .int .i64 h.2.1, .int .i64 h.2.2]
theorem hC_len (l : List H3) : (hC l).length = l.length * 3 := by
  induction l with
  | nil => rfl
  | cons h l ih => show (_ :: _ :: _ :: hC l).length = _; simp only [List.length_cons, ih]; omega
theorem hC_app (l m : List H3) : hC (l ++ m) = hC l ++ hC m := List.flatMap_append
theorem hC_one {l : List H3} : ∀ u ∈ hC l, u.oneCell' = true := fun u hu => by
  unfold hC at hu
  obtain ⟨x, _, h⟩ := List.mem_flatMap.1 hu
  simp only [List.mem_cons, List.not_mem_nil, or_false] at h
  rcases h with rfl | rfl | rfl <;> rfl
theorem hC_at : ∀ (l : List H3) (k : Nat) (h : k < l.length), (hC l)[k * 3]? = some (.int .i64 l[k].1) ∧ (hC l)[k * 3 + 1]? = some (.int .i64 l[k].2.1) ∧ (hC l)[k * 3 + 2]? = some (.int .i64 l[k].2.2)
  | [], k, h => absurd h (Nat.not_lt_zero _)
  | a :: l, 0, _ => ⟨rfl, rfl, rfl⟩
  | a :: l, k + 1, h => by
    have ih := hC_at l k (by simpa using h)
    have e : ∀ j, (hC (a :: l))[(k + 1) * 3 + j]? = (hC l)[k * 3 + j]? := fun j => by
      show (_ :: _ :: _ :: hC l)[(k + 1) * 3 + j]? = _
      rw [show (k + 1) * 3 + j = k * 3 + j + 3 by omega]
      rfl
    exact ⟨(e 0).trans ih.1, (e 1).trans ih.2.1, (e 2).trans ih.2.2⟩
theorem HAt.news {w : World} {b off : Nat} {l : List H3} (h : HAt w (some ⟨b, off, none⟩) l) : ∀ j u, (hC l)[j]? = some u → w.cell? ((⟨b, off, none⟩ : Addr).add j) = some u := fun j u hu => by
  have hj : j < (hC l).length := (List.getElem?_eq_some_iff.1 hu).1
  rw [hC_len] at hj
  have hk : j / 3 < l.length := by omega
  obtain ⟨b2, off2, e, _, c0, c1, c2⟩ := h (j / 3) hk
  injection e with e
  injection e with e1 e2
  subst e1 e2
  obtain ⟨g0, g1, g2⟩ := hC_at l (j / 3) hk
  have ea : (⟨b, off, none⟩ : Addr).add j = ⟨b, off + j, none⟩ := Go.WideShapes.add_plain ..
  rw [ea]
  rcases (show j = j / 3 * 3 ∨ j = j / 3 * 3 + 1 ∨ j = j / 3 * 3 + 2 by omega) with e | e | e
  · rw [e] at hu
    rw [g0] at hu
    injection hu with hu
    rw [← hu, show off + j = off + j / 3 * 3 by omega]
    exact c0
  · rw [e] at hu
    rw [g1] at hu
    injection hu with hu
    rw [← hu, show off + j = off + j / 3 * 3 + 1 by omega]
    exact c1
  · rw [e] at hu
    rw [g2] at hu
    injection hu with hu
    rw [← hu, show off + j = off + j / 3 * 3 + 2 by omega]
    exact c2
theorem own_hat {w : World} {base g n cap : Nat} {l : List H3} (h : w.ownsRow base 35 3 (.slice (some ⟨g, 0, none⟩) n cap) n (hC l)) (hn : l.length = n) : HAt w (some ⟨g, 0, none⟩) l := fun j hj => by
  obtain ⟨g0, g1, g2⟩ := hC_at l j hj
  have hg := (h.lt g rfl).2
  refine ⟨g, 0, rfl, hg, ?_, ?_, ?_⟩
  · rw [Nat.zero_add]; exact (h.cellAt _ (by omega)).trans g0
  · rw [Nat.zero_add]; exact (h.cellAt _ (by omega)).trans g1
  · rw [Nat.zero_add]; exact (h.cellAt _ (by omega)).trans g2
theorem hown_below {W W' : World} {N : Nat} {e : TypeId} {sz : Nat} {v : Value} {n : Nat} {xs : List Value} (h : W.ownsRow N e sz v n xs) (hb : Below W.heap.size W W') : W'.ownsRow N e sz v n xs :=
  h.kept (row := none) ⟨hb.os, hb.tape, hb.output, hb.size, fun k hk _ => hb.block k hk⟩ (by cases v.ownBlock <;> simp)
theorem hat_grown {w w' : World} {b o : Nat} {l : List H3} {row : Option Nat} (h : HAt w (some ⟨b, o, none⟩) l) (hg : w.grownBy w' row) (hne : some b ≠ row) (hsz : w.heap.size ≤ w'.heap.size) : HAt w' (some ⟨b, o, none⟩) l := fun j hj => by
  obtain ⟨b2, o2, e, hlt, c0, c1, c2⟩ := h j hj
  have e' := e
  injection e with e
  injection e with e1 e2
  subst e1 e2
  exact ⟨b, o, rfl, by omega, hg.cell (a := ⟨b, _, none⟩) c0 hne, hg.cell (a := ⟨b, _, none⟩) c1 hne, hg.cell (a := ⟨b, _, none⟩) c2 hne⟩
theorem hlit0 (W : World) (N : Nat) (hN : N ≤ W.heap.size) : (W.alloc (.cells #[] 35)).ownsRow N 35 3 (.slice (some ⟨W.heap.size, 0, none⟩) 0 0) 0 (hC []) :=
  World.ownsRow_lit W #[] 0 hN (by unfold maxLen; omega) rfl
theorem hlit1 (W : World) (x y z : Int) : HAt (W.alloc (.cells #[.int .i64 x, .int .i64 y, .int .i64 z] 35)) (some ⟨W.heap.size, 0, none⟩) [(x, y, z)] := hat_one (Blk.new W _ _)
end Go.Proofs.Ytkcnhdponcbjaaa
