/-
  Numeric operands, and what the operators w and J change.
-/
import Derived.Test.YtbagmjedkcipgaaDoorMgSttJ
import Derived.Test.YtbagmjedkcipgaaDoorMgMatG
namespace Go.Proofs.YtbagmjedkcipgaaDoor
open Go.RowKit

/-- A numeric operand in memory: its kind and its number. -/
def NumAt (W : World) (b off : Nat) (k y : Int) : Prop :=
  ∃ (z : Int) (t : ByteArray) (q r : Value), b < W.heap.size ∧ W.cell? ⟨b, off, none⟩ = some (.int .i64 k) ∧ W.cell? ⟨b, off + 1, none⟩ = some (.int .i64 y) ∧ W.cell? ⟨b, off + 2, none⟩ = some (.int .i64 z) ∧ W.cell? ⟨b, off + 3, none⟩ = some (.string t) ∧
    W.cell? ⟨b, off + 4, none⟩ = some q ∧ W.cell? ⟨b, off + 5, none⟩ = some r
theorem NumAt.below {W W' : World} {b off : Nat} {k y : Int} (h : NumAt W b off k y) (hb : Below W.heap.size W W') : NumAt W' b off k y := by
  obtain ⟨z, t, q, r, hlt, h0, h1, h2, h3, h4, h5⟩ := h
  exact ⟨z, t, q, r, Nat.lt_of_lt_of_le hlt hb.size, (hb.cell (p := ⟨b, _, none⟩) hlt).trans h0, (hb.cell (p := ⟨b, _, none⟩) hlt).trans h1, (hb.cell (p := ⟨b, _, none⟩) hlt).trans h2, (hb.cell (p := ⟨b, _, none⟩) hlt).trans h3, (hb.cell (p := ⟨b, _, none⟩) hlt).trans h4, (hb.cell (p := ⟨b, _, none⟩) hlt).trans h5⟩

set_option maxRecDepth 100000 in
theorem number_ok (b off i al ac : Nat) (k y : Int) (W : World) (h : NumAt W b (off + i * 6) k y) (hi : i < al) (hs : isNum k y = true) :
    Calls Tryd.prog 61 #[.slice (some ⟨b, off, none⟩) al ac, .int .i64 (i : Int)] W fun e w' => e = .returned (.int .i64 (unitsOf k y)) ∧ Below W.heap.size W w' := by
  obtain ⟨z, t, q, r, hlt, h0, h1, h2, h3, h4, h5⟩ := h
  have hiI : (i : Int) < (al : Int) := by omega
  have hi0 : (0 : Int) ≤ (i : Int) := by omega
  have HN := Lib.hid (fun V : World => number_any k y z t q r V)
  obtain ⟨u, hu⟩ : ∃ u, unitsOf k y = u := ⟨_, rfl⟩
  rw [hu] at HN
  rw [hu]
  rw [hs] at HN
  clear hu hs
  go_enter Tryd.func61, Tryd.ntmps61
  go_wp2_with fail
  refine (HN.out _).mono ?_
  rintro e w1 ⟨rfl, hb⟩
  have HB := Lib.hid hb
  clear hb
  go_wp2_with fail
  go_ret
  exact ⟨rfl, HB.out⟩
set_option maxRecDepth 100000 in
theorem number_no (b off i al ac : Nat) (k y : Int) (W : World) (h : NumAt W b (off + i * 6) k y) (hi : i < al) (hs : isNum k y = false) :
    Calls Tryd.prog 61 #[.slice (some ⟨b, off, none⟩) al ac, .int .i64 (i : Int)] W fun e w' => e = gUp 2 ∧ Below W.heap.size W w' := by
  obtain ⟨z, t, q, r, hlt, h0, h1, h2, h3, h4, h5⟩ := h
  have hiI : (i : Int) < (al : Int) := by omega
  have hi0 : (0 : Int) ≤ (i : Int) := by omega
  have HN := Lib.hid (fun V : World => number_any k y z t q r V)
  obtain ⟨u, hu⟩ : ∃ u, unitsOf k y = u := ⟨_, rfl⟩
  rw [hu] at HN
  rw [hs] at HN
  clear hu hs
  go_enter Tryd.func61, Tryd.ntmps61
  go_wp2_with fail
  refine (HN.out _).mono ?_
  rintro e w1 ⟨rfl, hb⟩
  have HB := Lib.hid hb
  clear hb
  go_wp2_with fail
  refine (up_any 2 _).mono ?_
  rintro e w' ⟨rfl, rfl⟩
  exact ⟨rfl, rfl, HB.out⟩

/-- May a number of so many units stand where at most m may? -/
def okTo (k y m : Int) : Bool := isNum k y && (decide (0 ≤ unitsOf k y) && decide (unitsOf k y ≤ m))
set_option maxRecDepth 100000 in
theorem withinO_ok (b off i al ac : Nat) (k y m : Int) (W : World) (h : NumAt W b (off + i * 6) k y) (hi : i < al) (hs : okTo k y m = true) :
    Calls Tryd.prog 63 #[.slice (some ⟨b, off, none⟩) al ac, .int .i64 (i : Int), .int .i64 m] W fun e w' => e = .returned (.int .i64 (unitsOf k y)) ∧ Below W.heap.size W w' := by
  simp only [okTo, Bool.and_eq_true, decide_eq_true_eq] at hs
  obtain ⟨hn, h0, h1⟩ := hs
  have HN := Lib.hid (number_ok b off i al ac k y W h hi hn)
  obtain ⟨u, hu⟩ : ∃ u, unitsOf k y = u := ⟨_, rfl⟩
  rw [hu] at HN h0 h1
  rw [hu]
  have h0 : ¬ u < 0 := by omega
  have h1 : ¬ m < u := by omega
  clear h hi hn hu
  go_enter Tryd.func63, Tryd.ntmps63
  go_wp2_with fail
  refine HN.out.mono ?_
  rintro e w1 ⟨rfl, hb⟩
  have HB := Lib.hid hb
  clear hb HN
  go_wp2_with fail
  go_ret
  exact ⟨rfl, HB.out⟩
set_option maxRecDepth 100000 in
theorem withinO_no (b off i al ac : Nat) (k y m : Int) (W : World) (h : NumAt W b (off + i * 6) k y) (hi : i < al) (hs : okTo k y m = false) :
    Calls Tryd.prog 63 #[.slice (some ⟨b, off, none⟩) al ac, .int .i64 (i : Int), .int .i64 m] W fun e w' => e = gUp 2 ∧ Below W.heap.size W w' := by
  by_cases hn : isNum k y = true
  · have HN := Lib.hid (number_ok b off i al ac k y W h hi hn)
    simp only [okTo, hn, Bool.true_and] at hs
    obtain ⟨u, hu⟩ : ∃ u, unitsOf k y = u := ⟨_, rfl⟩
    rw [hu] at HN hs
    clear h hi hn hu
    by_cases h0 : u < 0
    · clear hs
      go_enter Tryd.func63, Tryd.ntmps63
      go_wp2_with fail
      refine HN.out.mono ?_
      rintro e w1 ⟨rfl, hb⟩
      have HB := Lib.hid hb
      clear hb HN
      go_wp2_with fail
      refine (up_any 2 _).mono ?_
      rintro e w' ⟨rfl, rfl⟩
      exact ⟨rfl, rfl, HB.out⟩
    · have h1 : m < u := by simp at hs; omega
      clear hs
      go_enter Tryd.func63, Tryd.ntmps63
      go_wp2_with fail
      refine HN.out.mono ?_
      rintro e w1 ⟨rfl, hb⟩
      have HB := Lib.hid hb
      clear hb HN
      go_wp2_with fail
      refine (up_any 2 _).mono ?_
      rintro e w' ⟨rfl, rfl⟩
      exact ⟨rfl, rfl, HB.out⟩
  · have HN := Lib.hid (number_no b off i al ac k y W h hi (by simpa using hn))
    clear h hi hn hs
    go_enter Tryd.func63, Tryd.ntmps63
    go_wp2_with fail
    refine HN.out.mono ?_
    rintro e w1 ⟨rfl, hb⟩
    exact ⟨rfl, rfl, hb⟩
set_option maxRecDepth 100000 in
theorem amount_ok (b off i al ac : Nat) (k y : Int) (W : World) (h : NumAt W b (off + i * 6) k y) (hi : i < al) (hs : okTo k y 1073741824 = true) :
    Calls Tryd.prog 37 #[.slice (some ⟨b, off, none⟩) al ac, .int .i64 (i : Int)] W fun e w' => e = .returned (.int .i64 (unitsOf k y)) ∧ Below W.heap.size W w' := by
  have HN := Lib.hid (withinO_ok b off i al ac k y 1073741824 W h hi hs)
  clear h hi hs
  go_enter Tryd.func37, Tryd.ntmps37
  go_wp2_with fail
  refine HN.out.mono ?_
  rintro e w1 ⟨rfl, hb⟩
  have HB := Lib.hid hb
  clear hb HN
  go_wp2_with fail
  go_ret
  exact ⟨rfl, HB.out⟩
set_option maxRecDepth 100000 in
theorem amount_no (b off i al ac : Nat) (k y : Int) (W : World) (h : NumAt W b (off + i * 6) k y) (hi : i < al) (hs : okTo k y 1073741824 = false) :
    Calls Tryd.prog 37 #[.slice (some ⟨b, off, none⟩) al ac, .int .i64 (i : Int)] W fun e w' => e = gUp 2 ∧ Below W.heap.size W w' := by
  have HN := Lib.hid (withinO_no b off i al ac k y 1073741824 W h hi hs)
  clear h hi hs
  go_enter Tryd.func37, Tryd.ntmps37
  go_wp2_with fail
  refine HN.out.mono ?_
  rintro e w1 ⟨rfl, hb⟩
  exact ⟨rfl, rfl, hb⟩
set_option maxRecDepth 100000 in
theorem choice_far (b off al ac : Nat) (k y m : Int) (W : World) (h : NumAt W b off k y) (hi : 0 < al) (hm : 0 ≤ m ∧ m ≤ 7) (hs : okTo k y (m * 10000) = false) :
    Calls Tryd.prog 40 #[.slice (some ⟨b, off, none⟩) al ac, .int .i64 m] W fun e w' => e = gUp 2 ∧ Below W.heap.size W w' := by
  have HN := Lib.hid (withinO_no b off 0 al ac k y (m * 10000) W (by rw [Nat.zero_mul, Nat.add_zero]; exact h) hi hs)
  have hw : IntKind.i64.wrap (m * 10000) = m * 10000 := IntWalk.i64_in _ (by omega)
  clear h hi hs hm
  go_enter Tryd.func40, Tryd.ntmps40
  go_wp2_with fail
  refine HN.out.mono ?_
  rintro e w1 ⟨rfl, hb⟩
  exact ⟨rfl, rfl, hb⟩

/-- What w changes. -/
theorem change4_ok (n : Nat) (M : Array Value) (b off al ac : Nat) (k y : Int) (W : World) (hb : Blk W n 57 M) (h : NumAt W b off k y) (hi : 0 < al) (hs : okTo k y 1073741824 = true) (h6 : 6 < M.size) :
    Calls Tryd.prog 36 #[.pointer (some ⟨n, 0, none⟩), .slice (some ⟨b, off, none⟩) al ac] W fun e w' => e = .returned (.tuple #[]) ∧ Blk w' n 57 (M.setIfInBounds 6 (.int .i64 (unitsOf k y))) ∧ Two W w' n none := by
  have HN := Lib.hid (amount_ok b off 0 al ac k y W (by rw [Nat.zero_mul, Nat.add_zero]; exact h) hi hs)
  have HB := Lib.hid hb
  obtain ⟨u, hu⟩ : ∃ u, unitsOf k y = u := ⟨_, rfl⟩
  rw [hu] at HN
  rw [hu]
  have H6 := Lib.hid h6
  clear h hi hs hu hb h6
  go_enter Tryd.func36, Tryd.ntmps36
  go_wp2_with fail
  refine HN.out.mono ?_
  rintro e w1 ⟨rfl, hb⟩
  have b1 := HB.out.below hb HB.out.lt
  have c6 := b1.cell 6
  rw [Array.getElem?_eq_getElem H6.out] at c6
  have f6 := b1.frozen 6
  have HT := Lib.hid (show Blk w1 n 57 M ∧ Two W w1 n none from ⟨b1, ⟨hb.os, hb.tape, hb.output, hb.size, fun j hj _ _ => hb.block j hj⟩⟩)
  clear hb b1 HN
  go_wp2_with fail
  go_end0
  exact ⟨rfl, HT.out.1.set_ 6 _, HT.out.2.set_ 6 _⟩
/-- What J changes where its operand is too great. -/
theorem change6_no (n : Nat) (b off al ac : Nat) (k y : Int) (W : World) (h : NumAt W b off k y) (hi : 0 < al) (hs : okTo k y 20000 = false) :
    Calls Tryd.prog 39 #[.pointer (some ⟨n, 0, none⟩), .slice (some ⟨b, off, none⟩) al ac] W fun e w' => e = gUp 2 ∧ Two W w' n none := by
  have HN := Lib.hid (choice_far b off al ac k y 2 W h hi (by decide) hs)
  clear h hi hs
  go_enter Tryd.func39, Tryd.ntmps39
  go_wp2_with fail
  refine HN.out.mono ?_
  rintro e w1 ⟨rfl, hb⟩
  exact ⟨rfl, rfl, ⟨hb.os, hb.tape, hb.output, hb.size, fun j hj _ _ => hb.block j hj⟩⟩
/-- What Q changes. -/
theorem change2_ok (n : Nat) (M : Array Value) (v : Value) (k : Nat) (xs G : List Value) (W : World) (A : Option Addr) (al ac : Nat) (hM : MOk M) (hv : M[30]? = some v) (hb : Blk W n 57 M) (ho : Saved W v (k + 1) (xs ++ G)) (hG : G.length = 30) (hG1 : ∀ u ∈ G, u.oneCell' = true) (hk : k < 28) (hne : v.ownBlock ≠ some n) :
    Calls Tryd.prog 30 #[.pointer (some ⟨n, 0, none⟩), .slice A al ac] W fun e w' => e = .returned (.tuple #[]) ∧ ∃ v', Blk w' n 57 (mkM G v') ∧ v'.oneCell' = true ∧ Saved w' v' k xs ∧ v'.ownBlock = v.ownBlock ∧ Two W w' n none := by
  have HS := Lib.hid (restore_any n M v k xs G W hM hv hb ho hG hG1 hk hne)
  clear hM hv hb ho hk hne hG hG1
  go_enter Tryd.func30, Tryd.ntmps30
  go_wp2_with fail
  refine HS.out.mono ?_
  rintro e w1 ⟨rfl, h⟩
  go_wp2_with fail
  go_end0
  exact ⟨rfl, h⟩
theorem change2_no (n : Nat) (M : Array Value) (A : Option Addr) (cp : Nat) (W : World) (A' : Option Addr) (al ac : Nat) (hv : M[30]? = some (.slice A 0 cp)) (hb : Blk W n 57 M) :
    Calls Tryd.prog 30 #[.pointer (some ⟨n, 0, none⟩), .slice A' al ac] W fun e w' => e = gUp 29 ∧ Two W w' n none := by
  have HS := Lib.hid (restore_none n M A cp W hv hb)
  clear hv hb
  go_enter Tryd.func30, Tryd.ntmps30
  go_wp2_with fail
  refine HS.out.mono ?_
  rintro e w1 ⟨rfl, rfl⟩
  exact ⟨rfl, rfl, Two.refl _ _ _⟩
end Go.Proofs.YtbagmjedkcipgaaDoor
