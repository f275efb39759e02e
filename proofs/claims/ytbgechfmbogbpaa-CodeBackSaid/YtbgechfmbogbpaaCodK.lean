/-
  Sorting a short row of numbers: cmp.Compare, a piece of memory known cell by cell, slices' insertion sort.
-/
import Derived.Test.YtbgechfmbogbpaaCodH
import Derived.Deep.QuietTactic
import Derived.BigQuiet
namespace Go.Proofs.Ytbgechfmbogbpaa
open Go.RowKit Cod

namespace Cod
def cmpI (x y : Int) : Int := if x < y then -1 else if y < x then 1 else 0
/-- The element at j + 1 sinks while it is less than the one before. -/
def sink {α : Type} (d : α) (lt : α → α → Bool) : List α → Nat → List α
  | l, 0 => l
  | l, j + 1 => if lt (l.getD (j + 1) d) (l.getD j d) then sink d lt ((l.set (j + 1) (l.getD j d)).set j (l.getD (j + 1) d)) j else l
def insK {α : Type} (d : α) (lt : α → α → Bool) (l : List α) : Nat → List α
  | 0 => l
  | k + 1 => sink d lt (insK d lt l k) (k + 1)
def insS {α : Type} (d : α) (lt : α → α → Bool) (l : List α) : List α := insK d lt l (l.length - 1)
theorem sink_len {α : Type} (d : α) (lt : α → α → Bool) : ∀ j (l : List α), (sink d lt l j).length = l.length
  | 0, _ => rfl
  | j + 1, l => by
    simp only [sink]
    split
    · rw [sink_len d lt j]; simp
    · rfl
theorem insK_len {α : Type} (d : α) (lt : α → α → Bool) (l : List α) : ∀ k, (insK d lt l k).length = l.length
  | 0 => rfl
  | k + 1 => by simp only [insK]; rw [sink_len, insK_len d lt l k]
theorem all_set {α : Type} {p : α → Prop} {l : List α} (h : ∀ x ∈ l, p x) {v : α} (hv : p v) (i : Nat) : ∀ x ∈ l.set i v, p x := by
  intro x hx
  rcases List.mem_or_eq_of_mem_set hx with h1 | rfl
  · exact h x h1
  · exact hv
theorem all_getD {α : Type} {p : α → Prop} {l : List α} (h : ∀ x ∈ l, p x) (d : α) {i : Nat} (hi : i < l.length) : p (l.getD i d) := by
  rw [show l.getD i d = l[i] by simp [List.getD, hi]]
  exact h _ (List.getElem_mem hi)
theorem sink_all {α : Type} {p : α → Prop} (d : α) (lt : α → α → Bool) : ∀ j (l : List α), j < l.length → (∀ x ∈ l, p x) → ∀ x ∈ sink d lt l j, p x
  | 0, _, _, h => h
  | j + 1, l, hj, h => by
    simp only [sink]
    split
    · exact sink_all d lt j _ (by simp; omega) (all_set (all_set h (all_getD h d (by omega)) _) (all_getD h d (by omega)) _)
    · exact h
theorem insK_all {α : Type} {p : α → Prop} (d : α) (lt : α → α → Bool) (l : List α) (h : ∀ x ∈ l, p x) : ∀ k, k < l.length → ∀ x ∈ insK d lt l k, p x
  | 0, _ => h
  | k + 1, hk => by
    simp only [insK]
    exact sink_all d lt (k + 1) _ (by rw [insK_len]; exact hk) (insK_all d lt l h k (by omega))
end Cod

set_option maxRecDepth 100000 in
theorem isnan_any (x : Int) (w : World) : Calls Try.prog 62 #[.int .i64 x] w fun e w' => e = .returned (.bool false) ∧ w = w' := by
  go_enter Try.func62, Try.ntmps62
  go_wp2_with fail
  go_ret
  simp
set_option maxRecDepth 100000 in
theorem compare_any (x y : Int) (w : World) : Calls Try.prog 50 #[.int .i64 x, .int .i64 y] w fun e w' => e = .returned (.int .i64 (cmpI x y)) ∧ w = w' := by
  have H1 := Lib.hid (isnan_any x w)
  have H2 := Lib.hid (isnan_any y w)
  obtain ⟨z, hz⟩ : ∃ z, cmpI x y = z := ⟨_, rfl⟩
  rw [hz]
  unfold cmpI at hz
  by_cases h1 : x < y
  · rw [if_pos h1] at hz
    subst hz
    go_enter Try.func50, Try.ntmps50
    go_wp2_with fail
    refine H1.out.mono ?_
    rintro e w1 ⟨rfl, rfl⟩
    go_wp2_with fail
    refine H2.out.mono ?_
    rintro e w1 ⟨rfl, rfl⟩
    go_wp2_with fail
    go_ret
    exact ⟨rfl, rfl⟩
  · rw [if_neg h1] at hz
    by_cases h2 : y < x
    · rw [if_pos h2] at hz
      subst hz
      go_enter Try.func50, Try.ntmps50
      go_wp2_with fail
      refine H1.out.mono ?_
      rintro e w1 ⟨rfl, rfl⟩
      go_wp2_with fail
      refine H2.out.mono ?_
      rintro e w1 ⟨rfl, rfl⟩
      go_wp2_with fail
      go_ret
      exact ⟨rfl, rfl⟩
    · rw [if_neg h2] at hz
      subst hz
      go_enter Try.func50, Try.ntmps50
      go_wp2_with fail
      refine H1.out.mono ?_
      rintro e w1 ⟨rfl, rfl⟩
      go_wp2_with fail
      refine H2.out.mono ?_
      rintro e w1 ⟨rfl, rfl⟩
      go_wp2_with fail
      go_ret
      exact ⟨rfl, rfl⟩

/-- The first cells of a block, which has C of them. -/
def Seg (w : World) (R : Nat) (t : TypeId) (C : Nat) (xs : List Value) : Prop := ∃ cur : Array Value, Blk w R t cur ∧ cur.size = C ∧ xs.length ≤ C ∧ cur.toList.take xs.length = xs
section
variable {w w' : World} {R C : Nat} {t : TypeId} {xs : List Value}
theorem Seg.cell (h : Seg w R t C xs) (j : Nat) (hj : j < xs.length) : w.cell? ⟨R, j, none⟩ = some xs[j] := by
  obtain ⟨cur, h1, h2, h3, h4⟩ := h
  rw [h1.cell j]
  have e : (cur.toList.take xs.length)[j]? = xs[j]? := by rw [h4]
  rw [List.getElem?_take, if_pos hj, List.getElem?_eq_getElem hj] at e
  simpa using e
theorem Seg.frozen (h : Seg w R t C xs) (j : Nat) : w.frozen? ⟨R, j, none⟩ = false := by
  obtain ⟨cur, h1, _⟩ := h
  exact h1.frozen j
theorem Seg.set_ (h : Seg w R t C xs) (j : Nat) (v : Value) : Seg (w.setCell ⟨R, j, none⟩ v) R t C (xs.set j v) := by
  obtain ⟨cur, h1, h2, h3, h4⟩ := h
  refine ⟨_, h1.set_ j v, by simpa using h2, by simpa using h3, ?_⟩
  rw [List.length_set, Array.toList_setIfInBounds, List.take_set, h4]
theorem Seg.lt (h : Seg w R t C xs) : R < w.heap.size := by
  obtain ⟨cur, h1, _⟩ := h
  exact h1.lt
theorem Seg.below {B : Nat} (h : Seg w R t C xs) (hb : Below B w w') (hg : R < B) : Seg w' R t C xs := by
  obtain ⟨cur, h1, h2⟩ := h
  exact ⟨cur, h1.below hb hg, h2⟩
theorem Seg.far (h : Seg w R t C xs) {p : Addr} (hp : R ≠ p.block) (u : Value) : Seg (w.setCell p u) R t C xs := by
  obtain ⟨cur, h1, h2⟩ := h
  exact ⟨cur, h1.far hp u, h2⟩
theorem seg_own {base n cap size : Nat} (h : w.ownsRow base t size (.slice (some ⟨R, 0, none⟩) n cap) n xs) : Seg w R t (cap * size) xs ∧ base ≤ R ∧ n ≤ cap ∧ cap ≤ maxLen := by
  obtain ⟨h0, h1⟩ := h
  rcases h1 with ⟨h1, _⟩ | ⟨g, cap', cur, e, hb, hg, hn, hc, hs, ht⟩
  · cases h1
  · injection e with e1 e2 e3
    injection e1 with e1
    injection e1 with e1
    subst e1 e3
    exact ⟨⟨cur, hg, hs, by rw [h0]; exact Nat.mul_le_mul_right _ hn, by rw [h0]; exact ht⟩, hb, hn, hc⟩
theorem own_seg {base n cap size : Nat} (h : Seg w R t (cap * size) xs) (hb : base ≤ R) (hn : n ≤ cap) (hc : cap ≤ maxLen) (hl : xs.length = n * size) : w.ownsRow base t size (.slice (some ⟨R, 0, none⟩) n cap) n xs := by
  obtain ⟨cur, h1, h2, h3, h4⟩ := h
  exact ⟨hl, Or.inr ⟨R, cap, cur, rfl, hb, h1, hn, hc, h2, by rw [← hl]; exact h4⟩⟩
end
theorem iC_get (l : List Int) (j : Nat) (h : j < l.length) : (iC l)[j]'(by rw [iC_len]; exact h) = .int .i64 (l.getD j 0) := by
  unfold iC
  rw [List.getElem_map]
  congr 1
  simp [List.getD, h]
theorem iC_set (l : List Int) (j : Nat) (v : Int) : (iC l).set j (.int .i64 v) = iC (l.set j v) := by unfold iC; rw [List.map_set]
end Go.Proofs.Ytbgechfmbogbpaa
