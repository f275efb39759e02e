/-
  slices.Clone of a row of numbers.
-/
import Derived.Test.YtbgechfmbogbpaaCodE
import Derived.Deep.AppendLies
namespace Go.Proofs.Ytbgechfmbogbpaa
open Go.RowKit Cod

/-- The cells of a row of numbers, as a list. -/
def iC (l : List Int) : List Value := l.map fun x => Value.int .i64 x
theorem iC_len (l : List Int) : (iC l).length = l.length := by simp [iC]
theorem iC_snoc (l : List Int) (x : Int) : iC (l ++ [x]) = iC l ++ [.int .i64 x] := by simp [iC]
theorem iC_one (l : List Int) : ∀ u ∈ iC l, u.oneCell' = true := by
  intro u hu
  obtain ⟨x, _, rfl⟩ := List.mem_map.1 hu
  rfl
/-- Rows that a call owns. -/
def OwnI (w : World) (base : Nat) (v : Value) (n : Nat) (l : List Int) : Prop := w.ownsRow base 3 1 v n (iC l)

theorem infoI : (Try.prog.info? 3).map (fun i => (i.zero, i.size, i.bytes)) = some (some (.int .i64 0), 1, 8) := by kernel_rfl
theorem ilit0 (W : World) (N : Nat) (hN : N ≤ W.heap.size) : OwnI (W.alloc (.cells #[] 3)) N (.slice (some ⟨W.heap.size, 0, none⟩) 0 0) 0 [] :=
  World.ownsRow_lit W #[] 0 hN (by unfold maxLen; omega) rfl
theorem own_iat {w : World} {base g n cap : Nat} {l : List Int} (h : OwnI w base (.slice (some ⟨g, 0, none⟩) n cap) n l) (hn : l.length = n) : IAt w (some ⟨g, 0, none⟩) l := fun j hj => by
  have g0 : (iC l)[j]? = some (.int .i64 l[j]) := by unfold iC; rw [List.getElem?_map, List.getElem?_eq_getElem hj]; rfl
  exact ⟨g, 0, rfl, (h.lt g rfl).2, by rw [Nat.zero_add]; exact (h.cellAt _ (by omega)).trans g0⟩
theorem own_below {W W' : World} {N : Nat} {v : Value} {n : Nat} {l : List Int} (h : OwnI W N v n l) (hb : Below W.heap.size W W') : OwnI W' N v n l :=
  h.kept (row := none) ⟨hb.os, hb.tape, hb.output, hb.size, fun k hk _ => hb.block k hk⟩ (by cases v.ownBlock <;> simp)
theorem IAt.news {w : World} {ad : Addr} {l : List Int} (h : IAt w (some ad) l) : ∀ j u, (iC l)[j]? = some u → w.cell? (ad.add j) = some u := fun j u hu => by
  have hj : j < l.length := by
    rcases Nat.lt_or_ge j l.length with h1 | h1
    · exact h1
    · rw [List.getElem?_eq_none (by rw [iC_len]; exact h1)] at hu; cases hu
  obtain ⟨b, off, e, _, c⟩ := h j hj
  injection e with e
  subst e
  have g0 : (iC l)[j]? = some (.int .i64 l[j]) := by unfold iC; rw [List.getElem?_map, List.getElem?_eq_getElem hj]; rfl
  rw [g0] at hu
  injection hu with hu
  rw [← hu]
  have : (⟨b, off, none⟩ : Addr).add j = ⟨b, off + j, none⟩ := by unfold Addr.add; split <;> simp_all
  rw [this]
  exact c

set_option maxRecDepth 100000 in
set_option maxHeartbeats 4000000 in
theorem clone_any (A : Option Addr) (cap : Nat) (l : List Int) (w : World) (h : IAt w A l) (hA : A = none → l.length = 0 ∧ cap = 0) (hl : l.length ≤ 1000000) :
    Calls Try.prog 30 #[.slice A l.length cap] w fun e w' => ∃ A' c', e = .returned (.slice A' l.length c') ∧ IAt w' A' l ∧ Below w.heap.size w w' := by
  cases A with
  | none =>
    obtain ⟨h0, rfl⟩ := hA rfl
    have e : l = [] := List.eq_nil_of_length_eq_zero h0
    subst e
    have he : ∀ w : World, (binOp .eql 22 (.slice none 0 0) (.slice none 0 0)).run Try.prog w = .ok (.bool true) w := fun _ => rfl
    go_enter Try.func30, Try.ntmps30
    go_wp2_with fail
    go_ret
    first | exact ⟨none, ⟨0, rfl⟩, IAt.nil _ _, Below.refl _ _⟩ | exact ⟨none, 0, rfl, IAt.nil _ _, Below.refl _ _⟩
  | some ad =>
    obtain ⟨n, hn⟩ : ∃ n, l.length = n := ⟨_, rfl⟩
    have HN := Lib.hid hn
    rw [hn]
    by_cases h0 : n = 0
    · subst h0
      have e : l = [] := List.eq_nil_of_length_eq_zero hn
      clear hn HN
      subst e
      have he : ∀ w : World, (binOp .eql 22 (.slice (some ad) 0 cap) (.slice none 0 0)).run Try.prog w = .ok (.bool false) w := fun _ => rfl
      go_enter Try.func30, Try.ntmps30
      go_wp2_with fail
      go_ret
      first | exact ⟨some ⟨w.heap.size, 0, none⟩, ⟨0, rfl⟩, IAt.nil _ _, (Below.refl _ w).alloc (Nat.le_refl _) _⟩ | exact ⟨some ⟨w.heap.size, 0, none⟩, 0, rfl, IAt.nil _ _, (Below.refl _ w).alloc (Nat.le_refl _) _⟩
    · have h2 : 0 < n := by omega
      have he : ∀ w : World, (binOp .eql 22 (.slice (some ad) n cap) (.slice none 0 0)).run Try.prog w = .ok (.bool false) w := fun _ => rfl
      obtain ⟨i0, hi, hz0, hz1, hz2⟩ := info_parts infoI
      have H0 := Lib.hid (ilit0 w w.heap.size (Nat.le_refl _))
      have HB0 := Lib.hid ((Below.refl w.heap.size w).alloc (Nat.le_refl _) (.cells #[] 3))
      have H1 := Lib.hid (h.below HB0.out)
      have hnb : n ≤ 1000000 := by omega
      clear hn
      go_enter Try.func30, Try.ntmps30
      go_wp2_with (at_builtin; refine wpList_append_lies _ rfl _ _ _ rfl w.heap.size 3 i0 (.int .i64 0) 1 8 Try.underlying22 hi hz0 hz1 hz2 rfl (by decide) (.slice (some ⟨w.heap.size, 0, none⟩) 0 0) 0 [] rfl (by exact H0.out) ad n cap (iC l) rfl (by rw [iC_len, HN.out, Nat.mul_one]) (by exact H1.out.news) (iC_one l) h2 (by unfold maxLen; omega) (by omega) (by simp) (w.heap.size + 1) (by simp) ?_; intro g cap2 w1 hown1 hgrow hat hlt1)
      have hown : OwnI w1 w.heap.size (.slice (some ⟨g, 0, none⟩) n cap2) n l := by rw [Nat.zero_add] at hown1; exact hown1
      have HB1 := Lib.hid (HB0.out.grown hgrow (by simp) (fun k hk => by injection hk with hk; show w.heap.size ≤ k; rw [← hk]; exact Nat.le_refl _))
      have HI := Lib.hid (own_iat hown HN.out)
      clear hown1 hgrow hat hlt1 hown
      go_ret
      first | exact ⟨_, ⟨_, rfl⟩, HI.out, HB1.out⟩ | exact ⟨_, _, rfl, HI.out, HB1.out⟩
end Go.Proofs.Ytbgechfmbogbpaa
