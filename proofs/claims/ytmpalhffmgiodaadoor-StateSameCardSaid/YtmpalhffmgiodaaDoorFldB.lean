/-
  ops.signatures: the map of the operators by the letters of their operands.
-/
import Derived.Test.YtmpalhffmgiodaaDoorFldA
import Derived.Maps.Own
import Derived.Maps.StringElems
namespace Go.Proofs.YtmpalhffmgiodaaDoor
open Go.RowKit Go.WideMaps Go.Maps

/-- The letters and the names. -/
def sigs : List (List UInt8 × List UInt8) := [([], [98, 32, 66, 32, 98, 42, 32, 66, 42, 32, 66, 84, 32, 69, 84, 32, 69, 77, 67, 32, 66, 88, 32, 69, 88, 32, 102, 32, 70, 32, 102, 42, 32, 104, 32, 110, 32, 113, 32, 81, 32, 115, 32, 83, 32, 84, 42, 32, 87, 32, 87, 42]), ([110], [103, 32, 71, 32, 105, 32, 106, 32, 74, 32, 77, 32, 119, 32, 84, 99, 32, 84, 76, 32, 84, 114, 32, 84, 115, 32, 84, 119, 32, 84, 122]), ([110, 110], [100, 48, 32, 108, 32, 109, 32, 84, 100, 32, 84, 68]), ([110, 110, 110], [114, 103, 32, 82, 71]), ([110, 110, 110, 110], [107, 32, 75, 32, 114, 101, 32, 118, 32, 121]), ([110, 110, 110, 110, 110, 110], [99, 32, 99, 109, 32, 100, 49, 32, 84, 109]), ([78], [66, 77, 67, 32, 99, 115, 32, 67, 83, 32, 68, 111, 32, 103, 115, 32, 77, 80, 32, 114, 105, 32, 115, 104]), ([78, 110], [84, 102]), ([78, 42], [66, 68, 67, 32, 68, 80]), ([115], [84, 106, 32, 39]), ([110, 110, 115], [34]), ([97], [84, 74]), ([97, 110], [100]), ([100], [66, 73])]
def sigD (H : Type) : DataW H := sigs.foldl (fun D p => D.put (.string p.1) (.lit (.string p.2))) (.map [])
theorem sigLaw : Keyed Tryd.prog 9 := string_keyed Tryd.underlying9
theorem wpList_insert_own {H : Type} {P : Program} (w : World) {ops : Array Oper} {rest : List Oper} {o : Oper} {a : Act} {Q : Exit → Act → World → Prop}
    (hg : o.guard = none) (m x v : Operand) (t : TypeId) (hop : o.op = Op.insert t m x v)
    (k e : TypeId) (K : Keyed P k) (ht : P.underlying t = some (.map k e)) (R : Value → Option (DataW H × List MemPlace)) (b n : Nat) (D : DataW H)
    (hm : a.eval m = .map (some b)) (hown : w.ownsMap P k R b n D) (hn : n < maxLen) (key val : Value) (kl : Lit) (hx : a.eval x = key) (hv : a.eval v = val) (hkey : keyOf P k key = some kl)
    (d : DataW H) (ps : List MemPlace) (hval : R val = some (d, ps))
    (hK : ∀ w', w'.ownsMap P k R b (n + 1) (D.put kl d) → w.grownBy w' (some b) → wpList P ops Q rest (a.put o.dst undef) w') :
    wpList P ops Q (o :: rest) a w := by
  refine wpList_plain hg fun K' hK' => ?_
  obtain ⟨w', hrun, r1, r2⟩ := hown.update K ht hn hkey hval
  unfold Oper.wp
  simp [execOp, hop, hm, hx, hv, hrun, Result.andThen]
  exact hK' _ _ (hK w' r1 r2)

set_option maxRecDepth 100000 in
set_option maxHeartbeats 4000000 in
theorem signatures_any {H : Type} (w : World) :
    Calls Tryd.prog 70 #[] w fun e w' => e = .returned (.map (some w.heap.size)) ∧ w'.ownsMap Tryd.prog 9 (plainElem (H := H) Tryd.prog 9) w.heap.size 14 (sigD H) ∧ Below w.heap.size w w' := by
  have hmm := @run_makeMap Tryd.prog
  obtain ⟨N, hN⟩ : ∃ N, w.heap.size = N := ⟨_, rfl⟩
  obtain ⟨w0, hw0⟩ : ∃ w0, w.alloc (.map #[] 0) = w0 := ⟨_, rfl⟩
  have o0 : w0.ownsMap Tryd.prog 9 (plainElem (H := H) Tryd.prog 9) N 0 (.map []) := by rw [← hw0, ← hN]; exact World.ownsMap_made _ _ _ _
  have hB0 : Below N w w0 := by rw [← hw0, ← hN]; exact (Below.refl _ w).alloc (Nat.le_refl _) _
  rw [hN]
  go_enter Tryd.func70, Tryd.ntmps70
  go_wp2_with (first | (refine wpList_insert_own _ rfl _ _ _ 85 rfl 9 9 sigLaw Tryd.underlying85 (plainElem (H := H) Tryd.prog 9) N _ _ rfl (by first | assumption | (simp only [hN, hw0]; assumption)) (by unfold maxLen; omega) _ _ _ rfl rfl (keyOf_string_mk Tryd.underlying9 (by unfold maxLen; decide)) _ [] (plainElem_string Tryd.underlying9 (by unfold maxLen; decide)) ?_; intro wq hownq hgrowq) | go_in)
  rename_i w1 o1 g1 w2 o2 g2 w3 o3 g3 w4 o4 g4 w5 o5 g5 w6 o6 g6 w7 o7 g7 w8 o8 g8 w9 o9 g9 w10 o10 g10 w11 o11 g11 w12 o12 g12 w13 o13 g13
  have hg := (((((((((((((g1).trans g2).trans g3).trans g4).trans g5).trans g6).trans g7).trans g8).trans g9).trans g10).trans g11).trans g12).trans g13).trans hgrowq
  clear o1 g1 o2 g2 o3 g3 o4 g4 o5 g5 o6 g6 o7 g7 o8 g8 o9 g9 o10 g10 o11 g11 o12 g12 o13 g13
  go_ret
  exact ⟨rfl, hownq, hB0.grown hg (by rw [← hw0, World.size_alloc, hN]; omega) (fun r hr => by injection hr with hr; omega)⟩
end Go.Proofs.YtmpalhffmgiodaaDoor
