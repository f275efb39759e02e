/-
  The walks of the document's writer: Align, Len, Text, New, Raw.
-/
import Derived.Test.YtcgejhlhbokpiaaBitL
namespace Go.Proofs.Ytcgejhlhbokpiaa
open Go.RowKit Bt

set_option maxHeartbeats 400000 in
theorem valign_any (B g : Nat) (r : Option Nat) (l : List UInt8) (p : Nat) (o : Int) (w : World) (h : Wr 62 B w g r l p o) :
    Calls Try.prog 30 #[.pointer (some ⟨g, 0, none⟩)] w fun e w' => e = .returned (.tuple #[]) ∧ Wrote 62 B w g r l 0 0 w' := by
  obtain ⟨val, hB⟩ : ∃ val, Blk w g 62 #[val, .int .i64 (p : Int), .int .i64 o] := ⟨_, h.choose_spec.1⟩
  have c1 : w.cell? ⟨g, 1, none⟩ = some (.int .i64 (p : Int)) := (hB.cell 1).trans rfl
  have c2 : w.cell? ⟨g, 2, none⟩ = some (.int .i64 o) := (hB.cell 2).trans rfl
  have f1 : w.frozen? ⟨g, 1, none⟩ = false := hB.frozen 1
  have f2 : w.frozen? ⟨g, 2, none⟩ = false := hB.frozen 2
  have H := Lib.hid h
  clear h hB
  go_enter Try.func30, Try.ntmps30
  go_wp2
  go_end0
  exact ⟨rfl, ((Wrote.same H.out).part 0).ord 0⟩

set_option maxHeartbeats 400000 in
theorem vlen_any (B g : Nat) (r : Option Nat) (l : List UInt8) (p : Nat) (o : Int) (w : World) (h : Wr 62 B w g r l p o) :
    Calls Try.prog 34 #[.pointer (some ⟨g, 0, none⟩)] w fun e w' => e = .returned (.int .i64 (l.length : Int)) ∧ w = w' := by
  obtain ⟨v, h1, h2, h3, h4, h5⟩ := h
  obtain ⟨n, hn⟩ : ∃ n, l.length = n := ⟨_, rfl⟩
  rw [hn] at h2 ⊢
  obtain ⟨A, c, rfl⟩ := own_form h2
  have c0 : w.cell? ⟨g, 0, none⟩ = some (.slice A n c) := (h1.cell 0).trans rfl
  clear h1 h2 h3 h4 h5 hn
  go_enter Try.func34, Try.ntmps34
  go_wp2
  go_ret
  exact ⟨rfl, rfl⟩

set_option maxHeartbeats 400000 in
theorem vtext_any (B g : Nat) (r : Option Nat) (l : List UInt8) (p : Nat) (o : Int) (w : World) (h : Wr 62 B w g r l p o) :
    Calls Try.prog 36 #[.pointer (some ⟨g, 0, none⟩)] w fun e w' => e = .returned (.string ⟨l.toArray⟩) ∧ w = w' := by
  obtain ⟨v, h1, h2, h3, h4, h5⟩ := h
  have hconv := run_string_of_row h2
  have c0 : w.cell? ⟨g, 0, none⟩ = some v := (h1.cell 0).trans rfl
  clear h1 h2 h3 h4 h5
  go_enter Try.func36, Try.ntmps36
  go_wp2
  go_ret
  exact ⟨rfl, rfl⟩

set_option maxHeartbeats 400000 in
theorem vnew_any (B : Nat) (w : World) (hB : B ≤ w.heap.size) :
    Calls Try.prog 24 #[] w fun e w' => e = .returned (.pointer (some ⟨w.heap.size, 0, none⟩)) ∧ w.grownBy w' none ∧ Wr 62 B w' w.heap.size none [] 0 0 ∧ w'.heap.size = w.heap.size + 1 := by
  go_enter Try.func24, Try.ntmps24
  go_wp2
  go_ret
  exact ⟨rfl, World.grownBy_alloc _ _ _, ⟨.slice none 0 0, Blk.new _ _ _, World.ownsRow_nil _ _ _ _, rfl, by simp, hB⟩, by simp⟩

set_option maxHeartbeats 1000000 in
theorem vraw_any (B g : Nat) (r : Option Nat) (l : List UInt8) (p : Nat) (o : Int) (s : ByteArray) (w : World) (hll : l.length ≤ 900000) (hs : s.size ≤ 100000000000) (hBw : B ≤ w.heap.size) (h : Wr 62 B w g r l p o) :
    Calls Try.prog 32 #[.pointer (some ⟨g, 0, none⟩), .string s] w fun e w' => e = .returned (.tuple #[]) ∧ Wrote 62 B w g r (l ++ s.data.toList) 0 (if 0 < p then 0 else o) w' := by
  obtain ⟨i5, hi, hz0, hz1, hz2⟩ := info_parts info_u8
  obtain ⟨v0, hB0⟩ : ∃ val, Blk w g 62 #[val, .int .i64 (p : Int), .int .i64 o] := ⟨_, h.choose_spec.1⟩
  have c1 : w.cell? ⟨g, 1, none⟩ = some (.int .i64 (p : Int)) := (hB0.cell 1).trans rfl
  have H := Lib.hid h
  clear h hB0
  by_cases hp : 0 < p
  · rw [if_pos hp]
    go_enter Try.func32, Try.ntmps32
    go_wp2_with fail
    refine (valign_any B g r l p o w H.out).mono ?_
    rintro e w1 ⟨rfl, r1, hr1, ⟨v, h1, h2, rfl, h4, h5⟩, ht1⟩
    obtain ⟨n, hn⟩ : ∃ n, l.length = n := ⟨_, rfl⟩
    rw [hn] at h2 hll
    have HN := Lib.hid hn
    have HR := Lib.hid hr1
    have HT := Lib.hid ht1
    have H2 := Lib.hid h2
    have H1 := Lib.hid h1
    have c0 : w1.cell? ⟨g, 0, none⟩ = some v := (h1.cell 0).trans rfl
    have hBw1 : B ≤ w1.heap.size := Nat.le_trans hBw ht1.size
    clear hn hr1 ht1 h2 h1
    go_wp2_with (at_builtin; refine wpList_append_string_at _ rfl _ _ _ _ rfl B 5 i5 Try.underlying58 Try.underlying9 hi hz0 hz1 hz2 v n (byteCells l) rfl H2.out s rfl (by unfold maxLen; omega) (by omega) hBw1 ?_; intro v2 w2 hown2 hgrow2 hat2; obtain ⟨A2, c2, rfl⟩ := own_form hown2; have h12 := H1.out.grown hgrow2 (fun e => h4 e.symm); have f0 : w2.frozen? ⟨g, 0, none⟩ = false := h12.frozen 0; have c20 : w2.cell? ⟨g, 0, none⟩ = some v := (h12.cell 0).trans rfl)
    go_end0
    refine ⟨rfl, ?_⟩
    exact Wrote.then HR.out HT.out (wr_rowed (r := v.ownBlock) (w := w1) h5 h4 H1.out.lt HN.out h12 hown2 hgrow2 hat2)
  · have hp0 : p = 0 := by omega
    subst hp0
    rw [if_neg hp]
    obtain ⟨v, h1, h2, rfl, h4, h5⟩ := H.out
    obtain ⟨n, hn⟩ : ∃ n, l.length = n := ⟨_, rfl⟩
    rw [hn] at h2 hll
    have HN := Lib.hid hn
    have H2 := Lib.hid h2
    have H1 := Lib.hid h1
    have c0 : w.cell? ⟨g, 0, none⟩ = some v := (h1.cell 0).trans rfl
    clear hn h2 h1
    go_enter Try.func32, Try.ntmps32
    go_wp2_with (at_builtin; refine wpList_append_string_at _ rfl _ _ _ _ rfl B 5 i5 Try.underlying58 Try.underlying9 hi hz0 hz1 hz2 v n (byteCells l) rfl H2.out s rfl (by unfold maxLen; omega) (by omega) hBw ?_; intro v2 w2 hown2 hgrow2 hat2; obtain ⟨A2, c2, rfl⟩ := own_form hown2; have h12 := H1.out.grown hgrow2 (fun e => h4 e.symm); have f0 : w2.frozen? ⟨g, 0, none⟩ = false := h12.frozen 0; have c20 : w2.cell? ⟨g, 0, none⟩ = some v := (h12.cell 0).trans rfl)
    go_end0
    refine ⟨rfl, ?_⟩
    exact wr_rowed (r := v.ownBlock) (w := w) h5 h4 H1.out.lt HN.out h12 hown2 hgrow2 hat2
end Go.Proofs.Ytcgejhlhbokpiaa
