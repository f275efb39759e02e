/-
  What Tf changes.
-/
import Derived.Test.YtbagmjedkcipgaaDoorMgSttX
namespace Go.Proofs.YtbagmjedkcipgaaDoor
open Go.RowKit

/-- A string operand in memory. -/
def StrAt0 (W : World) (b off : Nat) (t : ByteArray) : Prop := b < W.heap.size ∧ W.cell? ⟨b, off + 3, none⟩ = some (.string t)
theorem StrAt0.below {W W' : World} {b off : Nat} {t : ByteArray} (h : StrAt0 W b off t) (hb : Below W.heap.size W W') : StrAt0 W' b off t :=
  ⟨Nat.lt_of_lt_of_le h.1 hb.size, (hb.cell (p := ⟨b, _, none⟩) h.1).trans h.2⟩

set_option maxRecDepth 100000 in
set_option maxHeartbeats 4000000 in
theorem t6_ok (n : Nat) (M : Array Value) (b off al ac : Nat) (t : ByteArray) (k y : Int) (W : World) (hb : Blk W n 57 M) (hM : M.size = 31) (hbn : b ≠ n) (h0 : StrAt0 W b off t) (h1 : NumAt W b (off + 6) k y) (hal : 1 < al) (hs : isNum k y = true) :
    Calls Tryd.prog 71 #[.pointer (some ⟨n, 0, none⟩), .slice (some ⟨b, off, none⟩) al ac] W fun e w' => e = .returned (.tuple #[]) ∧ Blk w' n 57 ((M.setIfInBounds 28 (.string t)).setIfInBounds 26 (.int .i64 (unitsOf k y))) ∧ Two W w' n none := by
  have HN := Lib.hid (fun (V : World) (hV : Below W.heap.size W V) => number_ok b off 1 al ac k y V (by rw [Nat.one_mul]; exact h1.below hV) hal hs)
  obtain ⟨u, hu⟩ : ∃ u, unitsOf k y = u := ⟨_, rfl⟩
  rw [hu] at HN
  rw [hu]
  have halI : (0 : Int) < (al : Int) := by omega
  have hal0 : 0 < al := by omega
  have hal1 : (1 : Int) < (al : Int) := by omega
  have c3 := h0.2
  have HB := Lib.hid (And.intro hb (And.intro hM (And.intro hbn h0)))
  clear hu hb hM hbn h0 h1 hal hs
  go_enter Tryd.func71, Tryd.ntmps71
  go_wp2_with fail
  go_region_held3 (fun W' => W'.cell? ⟨b, off + 3, none⟩ = some (.string t)) (first | exact c3 | exact C5.out | exact C6.out _ _ | exact C7.out _ _ | fail) (first | (go_at_call 61; refine (HN.out _ (by exact below_drewN (Below.refl _ _) 1)).mono ?_; rintro e w5 ⟨rfl, hb5⟩; have HX : Hid (Blk w5 n 57 M ∧ Two W w5 n none ∧ StrAt0 w5 b off t) := Lib.hid ⟨(HB.out.1.drewN 1).below hb5 HB.out.1.lt, belowTwo ((below_drewN (Below.refl _ W) 1).trans (hb5.mono (Nat.le_refl _))) n none, HB.out.2.2.2.below ((below_drewN (Below.refl _ W) 1).trans (hb5.mono (Nat.le_refl _)))⟩; have C5 : Hid (w5.cell? ⟨b, off + 3, none⟩ = some (.string t)) := Lib.hid HX.out.2.2.2; have C6 : Hid (∀ (i : Nat) (v : Value), (w5.setCell ⟨n, i, none⟩ v).cell? ⟨b, off + 3, none⟩ = some (.string t)) := Lib.hid (fun i v => by rw [World.cell?_setCell_other _ _ _ _ (by intro e; injection e with e; exact HB.out.2.2.1 e.symm)]; exact C5.out); have C7 : Hid (∀ (v u : Value), ((w5.setCell ⟨n, 28, none⟩ v).setCell ⟨n, 26, none⟩ u).cell? ⟨b, off + 3, none⟩ = some (.string t)) := Lib.hid (fun v u => by rw [World.cell?_setCell_other _ _ _ _ (by intro e; injection e with e; exact HB.out.2.2.1 e.symm)]; exact C6.out _ _); have f28 := HX.out.1.frozen 28; have f26 := HX.out.1.frozen 26; have c28 := HX.out.1.cell 28; have c26 := HX.out.1.cell 26; rw [Array.getElem?_eq_getElem (by rw [HB.out.2.1]; decide)] at c28 c26))
  all_goals
    go_wp2
    go_end0
    exact ⟨rfl, (HX.out.1.set_ 28 _).set_ 26 _, (HX.out.2.1.set_ 28 _).set_ 26 _⟩
set_option maxRecDepth 100000 in
set_option maxHeartbeats 4000000 in
theorem t6_no (n : Nat) (b off al ac : Nat) (t : ByteArray) (k y : Int) (W : World) (h0 : StrAt0 W b off t) (h1 : NumAt W b (off + 6) k y) (hal : 1 < al) (hs : isNum k y = false) :
    Calls Tryd.prog 71 #[.pointer (some ⟨n, 0, none⟩), .slice (some ⟨b, off, none⟩) al ac] W fun e w' => e = gUp 2 ∧ Two W w' n none := by
  have HN := Lib.hid (fun (V : World) (hV : Below W.heap.size W V) => number_no b off 1 al ac k y V (by rw [Nat.one_mul]; exact h1.below hV) hal hs)
  have halI : (0 : Int) < (al : Int) := by omega
  have hal0 : 0 < al := by omega
  have hal1 : (1 : Int) < (al : Int) := by omega
  have c3 := h0.2
  clear h0 h1 hal hs
  go_enter Tryd.func71, Tryd.ntmps71
  go_wp2_with fail
  go_region_dies
  all_goals
    refine (HN.out _ (by exact below_drewN (Below.refl _ _) 1)).mono ?_
    rintro e w5 ⟨rfl, hb5⟩
    exact ⟨rfl, rfl, belowTwo ((below_drewN (Below.refl _ W) 1).trans (hb5.mono (Nat.le_refl _))) n none⟩
end Go.Proofs.YtbagmjedkcipgaaDoor
