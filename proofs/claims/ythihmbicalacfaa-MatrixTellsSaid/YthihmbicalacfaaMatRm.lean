/-
  Read, the program's and the document's, of an object that came in: the same answer in every later world.
-/
import Derived.Test.YthihmbicalacfaaMatRl
namespace Go.Proofs.Ythihmbicalacfaa
open Go.RowKit Fix Mat

theorem pick_lt {α : Type} [Inhabited α] {n : Nat} {p : Nat → α → Prop} (h : ∀ i, i < n → ∃ x, p i x) : ∃ f : Nat → α, ∀ i, i < n → p i (f i) :=
  ⟨fun i => if hi : i < n then Classical.choose (h i hi) else default, fun i hi => by simp only [dif_pos hi]; exact Classical.choose_spec (h i hi)⟩
theorem kids_row {f : Nat} {w : World} {oa : Option Addr} (h : KidsAt f w oa 6) : ∃ l : List (Int × Int), l.length = 6 ∧ NumRowS w oa l := by
  cases f with
  | zero => exact absurd (show (6 : Nat) = 0 from h) (by decide)
  | succ f =>
    have each : ∀ j, j < 6 → ∃ q : Int × Int, ∃ (b off : Nat) (g : Int) (s : ByteArray) (a1 a2 : Option Addr) (n1 c1 n2 c2 : Nat), oa = some ⟨b, off, none⟩ ∧
        w.cell? ⟨b, off + j * 6, none⟩ = some (.int .i64 q.1) ∧ w.cell? ⟨b, off + j * 6 + 1, none⟩ = some (.int .i64 q.2) ∧ w.cell? ⟨b, off + j * 6 + 2, none⟩ = some (.int .i64 g) ∧
        w.cell? ⟨b, off + j * 6 + 3, none⟩ = some (.string s) ∧ w.cell? ⟨b, off + j * 6 + 4, none⟩ = some (.slice a1 n1 c1) ∧ w.cell? ⟨b, off + j * 6 + 5, none⟩ = some (.slice a2 n2 c2) := fun j hj => by
      obtain ⟨b, off, x, y, z, t, qa, ra, ql, qc, rl, rc, e, ⟨h0, h1, h2, h3, h4, h5⟩, _, _⟩ := h.2 j hj
      exact ⟨(x, y), b, off, z, t, qa, ra, ql, qc, rl, rc, e, h0, h1, h2, h3, h4, h5⟩
    obtain ⟨g, hg⟩ := pick_lt each
    refine ⟨(List.range 6).map g, by simp, fun j hj => ?_⟩
    have hj' : j < 6 := by simpa using hj
    have e : ((List.range 6).map g)[j]'hj = g j := by simp
    rw [e]
    exact hg j hj'
theorem read_both (f : Nat) (k n g : Int) (s : ByteArray) (ka oa : Option Addr) (kl kc ol oc : Nat) (w : World) (hd : KidsAt f w oa ol) : ∃ (q : Mx) (x : Int), ∀ W, Below w.heap.size w W →
    (Calls Try.prog 19 #[.agg #[.int .i64 k, .int .i64 n, .int .i64 g, .string s, .slice ka kl kc, .slice oa ol oc]] W fun e w' => e = mxR q x ∧ Below W.heap.size W w') ∧
    (Calls Try.prog 20 #[.agg #[.int .i64 k, .int .i64 n, .int .i64 g, .string s, .slice ka kl kc, .slice oa ol oc]] W fun e w' => e = mxR q x ∧ Below W.heap.size W w') := by
  by_cases hk : k = 6
  · subst hk
    by_cases ho : ol = 6
    · subst ho
      obtain ⟨l, hl, hr⟩ := kids_row hd
      exact ⟨readQ l, readX l, fun W hb => ⟨read_six n g s _ oa oc l W hl (hr.below hb (Nat.le_refl _)).num, read42_six n g s _ oa oc l W hl (hr.below hb (Nat.le_refl _))⟩⟩
    · exact ⟨zeroM, 3, fun W _ => ⟨read_form n g s _ oa ol oc W ho, read42_form n g s _ oa ol oc W ho⟩⟩
  · exact ⟨zeroM, 10, fun W _ => ⟨read_kind k n g s _ _ W hk, read42_kind k n g s _ _ W hk⟩⟩
end Go.Proofs.Ythihmbicalacfaa
