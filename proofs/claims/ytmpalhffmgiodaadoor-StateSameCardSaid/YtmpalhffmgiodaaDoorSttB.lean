/-
  slices.Equal of lists of int64.
-/
import Derived.Test.YtmpalhffmgiodaaDoorSttA
namespace Go.Proofs.YtmpalhffmgiodaaDoor
open Go.RowKit

/-- A row of numbers in memory. -/
def NAt (w : World) (A : Option Addr) (l : List Int) : Prop :=
  ∀ j (h : j < l.length), ∃ b off : Nat, A = some ⟨b, off, none⟩ ∧ b < w.heap.size ∧ w.cell? ⟨b, off + j, none⟩ = some (.int .i64 l[j])
theorem NAt.below {w w' : World} {A : Option Addr} {l : List Int} (h : NAt w A l) (hb : Below w.heap.size w w') : NAt w' A l := fun j hj => by
  obtain ⟨b, off, ha, hlt, h1⟩ := h j hj
  exact ⟨b, off, ha, Nat.lt_of_lt_of_le hlt hb.size, (hb.cell (p := ⟨b, _, none⟩) hlt).trans h1⟩
theorem take_eq_snoc {l m : List Int} {k : Nat} (h1 : k < l.length) (h2 : k < m.length) (h : l.take k = m.take k) (e : l[k] = m[k]) : l.take (k + 1) = m.take (k + 1) := by
  rw [List.take_succ_eq_append_getElem h1, List.take_succ_eq_append_getElem h2, h, e]

set_option maxRecDepth 100000 in
set_option maxHeartbeats 4000000 in
theorem equal64_any (A B : Option Addr) (ca cb : Nat) (l m : List Int) (w : World) (hA : NAt w A l) (hB : NAt w B m) (hl : l.length ≤ 1000000000) :
    Calls Tryd.prog 16 #[.slice A l.length ca, .slice B m.length cb] w fun e w' => e = .returned (.bool (decide (l = m))) ∧ Below w.heap.size w w' := by
  obtain ⟨z, hz⟩ : ∃ z, decide (l = m) = z := ⟨_, rfl⟩
  have HZ := Lib.hid hz
  rw [hz]
  obtain ⟨p, hp⟩ : ∃ p, l.length = p := ⟨_, rfl⟩
  obtain ⟨q, hq⟩ : ∃ q, m.length = q := ⟨_, rfl⟩
  have HP := Lib.hid hp
  have HQ := Lib.hid hq
  by_cases hpq : p = q
  · subst hpq
    have HA := Lib.hid hA
    have HB := Lib.hid hB
    rw [hp, hq]
    have hpI : (p : Int) ≤ 1000000000 := by omega
    clear hA hB hp hq hz hl
    go_enter Tryd.func16, Tryd.ntmps16
    go_wp2_with fail
    go_loopw [13] (fun iv wr => ∃ k : Nat, k ≤ p ∧ iv = .int .i64 (k : Int) ∧ Hid (Below w.heap.size w wr) ∧ Hid (l.take k = m.take k)) (fun iv _ => p - (intOf iv).toNat)
    case atStart => exact ⟨0, by omega, rfl, Lib.hid (Below.refl _ _), Lib.hid rfl⟩
    case round =>
      obtain ⟨k, hk, rfl, HW, HE⟩ := hrel
      by_cases hlt : k < p
      · have hkl : k < l.length := by rw [HP.out]; exact hlt
        have hkm : k < m.length := by rw [HQ.out]; exact hlt
        have hik : (k : Int) < (p : Int) := by omega
        have hik0 : (0 : Int) ≤ (k : Int) := by omega
        obtain ⟨b1, o1, rfl, _, c0⟩ := (HA.out.below HW.out) k hkl
        obtain ⟨b2, o2, rfl, _, c1⟩ := (HB.out.below HW.out) k hkm
        by_cases hx : l[k] = m[k]
        · have HE2 := Lib.hid (take_eq_snoc hkl hkm HE.out hx)
          rw [hx] at c0
          obtain ⟨x, hxx⟩ : ∃ x, m[k] = x := ⟨_, rfl⟩
          rw [hxx] at c0 c1
          clear hx hxx
          go_wp2_with fail
          go_quiet (fail)
          go_wp2
          go_roundw
          case rel => exact ⟨k + 1, by omega, by go_num, Lib.hid (below_drewN HW.out _), HE2⟩
          case measure => simp [intOf]; omega
        · have HF := Lib.hid (show z = false by
            rw [← HZ.out]
            exact decide_eq_false (fun e => hx (by simp only [e])))
          obtain ⟨x, hxx⟩ : ∃ x, l[k] = x := ⟨_, rfl⟩
          obtain ⟨y, hyy⟩ : ∃ y, m[k] = y := ⟨_, rfl⟩
          rw [hxx] at c0 hx
          rw [hyy] at c1 hx
          clear hxx hyy
          go_wp2_with fail
          go_quiet (fail)
          go_wp2
          go_ret
          exact ⟨by rw [HF.out] <;> rfl, below_drewN HW.out _⟩
      · obtain rfl : k = p := by omega
        have HF := Lib.hid (show z = true by
          rw [← HZ.out]
          have h := HE.out
          rw [show l.take k = l by rw [← HP.out, List.take_length], show m.take k = m by rw [← HQ.out, List.take_length]] at h
          exact decide_eq_true h)
        go_wp2_with fail
        go_ret
        exact ⟨by rw [HF.out] <;> rfl, HW.out⟩
  · have hpqI : ¬ (p : Int) = (q : Int) := by omega
    have HF := Lib.hid (show z = false by
      rw [← HZ.out]
      exact decide_eq_false (fun e => hpq (by rw [← HP.out, ← HQ.out, e])))
    rw [hp, hq]
    clear hA hB hp hq hz hl hpq
    go_enter Tryd.func16, Tryd.ntmps16
    go_wp2_with fail
    go_ret
    exact ⟨by rw [HF.out] <;> rfl, Below.refl _ _⟩
end Go.Proofs.YtmpalhffmgiodaaDoor
