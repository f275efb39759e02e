/-
  Lemmas and walks, joined: Base, FixA, FixB, FixC, FixD, FixE, FixF, FixG, FixH, FixI, FixJ, FixK.
-/
import Derived.Test.YtbagmjedkcipgaaDoorMgJBase0
import Derived.Test.YtbagmjedkcipgaaDoorMgJFixMath
import Derived.WalkKit
import Derived.WalkSpells
import Derived.WalkLawsBesides
import Derived.Lib.Hide
import Derived.Deep.QuietTactic
import Derived.BigQuiet
import Derived.IntWalk
import Derived.Defers
import Derived.Recover
import Derived.Laws.Pointers
import Derived.Deep.RegionWith
import Derived.RegionDies
import Derived.LoopTactic
import Derived.Laws.Shifts
namespace Go.Proofs.YtbagmjedkcipgaaDoor
open Go.RowKit

end Go.Proofs.YtbagmjedkcipgaaDoor
namespace Go.Proofs.YtbagmjedkcipgaaDoor
open Go.RowKit Fix


/-- The panic with an error number. -/
def gaveUp (e : Int) : Ending := .panicked [{ v := .iface 29 (.int .i64 e), recovered := false }]

theorem within_ok (n m : Int) (w : World) (hm : 0 ≤ m) (hm2 : m ≤ 4611686018427387904) (h1 : -m ≤ n) (h2 : n ≤ m) :
    Calls Tryd.prog 91 #[.int .i64 n, .int .i64 m] w fun e w' => e = .returned (.int .i64 n) ∧ w = w' := by
  go_enter Tryd.func91, Tryd.ntmps91
  go_wp2
  go_ret
  exact ⟨rfl, rfl⟩
theorem within_low (n m : Int) (w : World) (hm : 0 ≤ m) (hm2 : m ≤ 4611686018427387904) (h1 : n < -m) :
    Calls Tryd.prog 91 #[.int .i64 n, .int .i64 m] w fun e w' => e = gaveUp 2 ∧ w = w' := by
  go_enter Tryd.func91, Tryd.ntmps91
  go_wp2
  exact ⟨rfl, rfl, rfl⟩
theorem within_high (n m : Int) (w : World) (hm : 0 ≤ m) (hm2 : m ≤ 4611686018427387904) (h1 : m < n) :
    Calls Tryd.prog 91 #[.int .i64 n, .int .i64 m] w fun e w' => e = gaveUp 2 ∧ w = w' := by
  go_enter Tryd.func91, Tryd.ntmps91
  go_wp2
  exact ⟨rfl, rfl, rfl⟩

theorem sized_ok (n : Int) (w : World) (h1 : -1073741824 ≤ n) (h2 : n ≤ 1073741824) :
    Calls Tryd.prog 85 #[.int .i64 n] w fun e w' => e = .returned (.int .i64 n) ∧ w = w' := by
  go_enter Tryd.func85, Tryd.ntmps85
  go_wp2_with fail
  refine (within_ok n 1073741824 _ (by decide) (by decide) h1 h2).mono ?_
  rintro e w' ⟨rfl, rfl⟩
  go_wp2_with fail
  go_ret
  exact ⟨rfl, rfl⟩
theorem sized_no (n : Int) (w : World) (h : n < -1073741824 ∨ 1073741824 < n) :
    Calls Tryd.prog 85 #[.int .i64 n] w fun e w' => e = gaveUp 2 ∧ w = w' := by
  rcases h with h | h
  · go_enter Tryd.func85, Tryd.ntmps85
    go_wp2_with fail
    refine (within_low n 1073741824 _ (by decide) (by decide) h).mono ?_
    rintro e w' ⟨rfl, rfl⟩
    exact ⟨rfl, rfl, rfl⟩
  · go_enter Tryd.func85, Tryd.ntmps85
    go_wp2_with fail
    refine (within_high n 1073741824 _ (by decide) (by decide) h).mono ?_
    rintro e w' ⟨rfl, rfl⟩
    exact ⟨rfl, rfl, rfl⟩

set_option maxHeartbeats 1000000 in
theorem near_any (n d : Int) (w : World) (hd : 0 < d) (hd2 : d ≤ 9223372036854775807) (hq : -4611686018427387904 ≤ n.tdiv d ∧ n.tdiv d ≤ 4611686018427387904) :
    Calls Tryd.prog 86 #[.int .i64 n, .int .i64 d] w fun e w' => e = .returned (.int .i64 (nearS n d)) ∧ ∃ k, w' = w.drewN k := by
  have hg := near_go n d hd
  have hr1 := Int.tmod_lt_of_pos n hd
  have hr2 := Int.lt_tmod_of_pos n hd
  have HG := Lib.hid hg
  clear hg
  have hne : ¬ d = 0 := by omega
  have hw1 : IntKind.i64.wrap (n.tdiv d) = n.tdiv d := IntWalk.i64_in _ (by omega)
  have hw2 : IntKind.i64.wrap (n.tmod d) = n.tmod d := IntWalk.i64_in _ (by omega)
  by_cases hneg : n.tmod d < 0
  all_goals
    go_enter Tryd.func86, Tryd.ntmps86
    go_wp2
    go_quiet (fail)
    clear hw1 hw2
    go_wp2
    all_goals
      go_ret
      exact ⟨ret_int (by rw [HG.out]; (repeat' split) <;> omega), _, rfl⟩
end Go.Proofs.YtbagmjedkcipgaaDoor
namespace Go.Proofs.YtbagmjedkcipgaaDoor
open Go.RowKit Fix

theorem reason_errno (x : Int) (w : World) :
    Calls Tryd.prog 90 #[.iface 29 (.int .i64 x)] w fun e w' => e = .returned (.int .i64 x) ∧ w = w' := by
  have hta : ∀ w : World, (Instr.typeAssert (.iface 29 (.int .i64 x)) 20 29 true).run Tryd.prog w = .ok (.tuple #[.int .i64 x, .bool true]) w := fun _ => by kernel_rfl
  go_enter Tryd.func90, Tryd.ntmps90
  go_wp2
  go_ret
  exact ⟨rfl, rfl⟩

theorem catch_panicking (p q : Addr) (a b x : Int) (older : List PanicEntry) (w : World) (hp : w.cell? p = some (.int .i64 a)) (hz : w.frozen? p = false)
    (hq : (w.setCell p (.int .i64 0)).cell? q = some (.int .i64 b)) (hzq : (w.setCell p (.int .i64 0)).frozen? q = false) :
    CallsD Tryd.prog 89 #[.pointer (some p), .pointer (some q)] (.panicking ({ v := .iface 29 (.int .i64 x), recovered := false } :: older)) w fun e u' w' =>
      e = .returned (.tuple #[]) ∧ u' = .panicking ({ v := .iface 29 (.int .i64 x), recovered := true } :: older) ∧ w' = (w.setCell p (.int .i64 0)).setCell q (.int .i64 x) := by
  refine callsD_of_wpS Tryd.func89 rfl fun c₀ cs hu => ?_
  apply wpS_seq
  apply wpS_region
  simp [wpOpsS, go_sem, recoverD, hu, Tryd.ntmps89, Exit.thenS]
  refine wpS_of_wp ?_
  change Code.wp Tryd.prog _ _ { tmps := #[.pointer (some p), .pointer (some q), .iface 29 (.int .i64 x), .iface 29 (.int .i64 x), undef, undef, undef, undef], defers := [] } w
  go_wp2_with (go_at_call 90; refine (reason_errno _ _).mono ?_; rintro e w' ⟨rfl, rfl⟩)
  simp [bodyPostS, results, Tryd.results89]

theorem catch_idle (p q : Addr) (w : World) :
    CallsD Tryd.prog 89 #[.pointer (some p), .pointer (some q)] .returning w fun e u' w' => e = .returned (.tuple #[]) ∧ u' = .returning ∧ w' = w := by
  refine callsD_of_wpS Tryd.func89 rfl fun c₀ cs hu => ?_
  apply wpS_seq
  apply wpS_region
  simp [wpOpsS, go_sem, recoverD, hu, Tryd.ntmps89, Exit.thenS]
  refine wpS_of_wp ?_
  change Code.wp Tryd.prog _ _ { tmps := #[.pointer (some p), .pointer (some q), .nilIface, .nilIface, undef, undef, undef, undef], defers := [] } w
  go_wp2_with fail
  cases c₀
  simp_all [bodyPostS, results, Tryd.results89]

theorem below_two (w : World) (k : Nat) (o o' : Obj) (u u' : Value) : Below w.heap.size w (((((w.alloc o).alloc o').drewN k).setCell ⟨w.heap.size, 0, none⟩ u).setCell ⟨w.heap.size + 1, 0, none⟩ u') :=
  ((below_drewN (((Below.refl _ _).alloc (Nat.le_refl _) _).alloc (by simp) _) k).setCell (p := ⟨w.heap.size, 0, none⟩) (Nat.le_refl _) u).setCell (p := ⟨w.heap.size + 1, 0, none⟩) (Nat.le_succ _) u'

/-- attempt, where the work returns n. -/
theorem attempt_ok (F : FuncId) (caps : Array Value) (n : Int) (w : World) (henter : ∀ W : World, (callFunc F caps).run Tryd.prog W = .ok (.enter F caps) W)
    (hwork : Calls Tryd.prog F caps ((w.alloc (.cells #[.int .i64 0] 2)).alloc (.cells #[.int .i64 0] 29)) fun e w' => e = .returned (.int .i64 n) ∧ ∃ k, w' = ((w.alloc (.cells #[.int .i64 0] 2)).alloc (.cells #[.int .i64 0] 29)).drewN k) :
    Calls Tryd.prog 83 #[.func (.func F) #[] caps] w fun e w' => e = .returned (.tuple #[.int .i64 n, .int .i64 0]) ∧ Below w.heap.size w w' := by
  have hmf : ∀ (fn : Fn) (first cap : Array Value) (w : World), (Instr.makeFunc fn first cap).run Tryd.prog w = .ok (.func fn first cap) w := fun _ _ _ _ => rfl
  have HW := Lib.hid hwork
  clear hwork
  go_enter_defers Tryd.func83, Tryd.ntmps83
  go_wp2_with fail
  refine HW.out.mono ?_
  rintro e w1 ⟨rfl, k, rfl⟩
  go_wp2_with fail
  refine leaves_cons (f := 89) (args := #[.pointer (some ⟨w.heap.size, 0, none⟩), .pointer (some ⟨w.heap.size + 1, 0, none⟩)]) (by simp) (by simp [go_sem]) ?_
  refine (catch_idle ⟨w.heap.size, 0, none⟩ ⟨w.heap.size + 1, 0, none⟩ _).mono ?_
  rintro e u' w'' ⟨rfl, rfl, rfl⟩
  simp [Leaves, settle, results, Tryd.results83, go_sem]
  exact below_two _ _ _ _ _ _

/-- attempt, where the work gives up with the error x. -/
theorem attempt_no (F : FuncId) (caps : Array Value) (x : Int) (w : World) (henter : ∀ W : World, (callFunc F caps).run Tryd.prog W = .ok (.enter F caps) W)
    (hwork : Calls Tryd.prog F caps ((w.alloc (.cells #[.int .i64 0] 2)).alloc (.cells #[.int .i64 0] 29)) fun e w' => e = gaveUp x ∧ ∃ k, w' = ((w.alloc (.cells #[.int .i64 0] 2)).alloc (.cells #[.int .i64 0] 29)).drewN k) :
    Calls Tryd.prog 83 #[.func (.func F) #[] caps] w fun e w' => e = .returned (.tuple #[.int .i64 0, .int .i64 x]) ∧ Below w.heap.size w w' := by
  have hmf : ∀ (fn : Fn) (first cap : Array Value) (w : World), (Instr.makeFunc fn first cap).run Tryd.prog w = .ok (.func fn first cap) w := fun _ _ _ _ => rfl
  have HW := Lib.hid hwork
  clear hwork
  go_enter_defers Tryd.func83, Tryd.ntmps83
  go_wp2_with fail
  refine HW.out.mono ?_
  rintro e w1 ⟨rfl, k, rfl⟩
  unfold gaveUp
  go_wp2_with fail
  refine leaves_cons (f := 89) (args := #[.pointer (some ⟨w.heap.size, 0, none⟩), .pointer (some ⟨w.heap.size + 1, 0, none⟩)]) (by simp) (by simp [go_sem]) ?_
  refine (catch_panicking ⟨w.heap.size, 0, none⟩ ⟨w.heap.size + 1, 0, none⟩ 0 0 x [] _ ?_ ?_ ?_ ?_).mono ?_
  · simp [go_sem]
  · simp [go_sem]
  · simp [go_sem]
  · simp [go_sem]
  rintro e u' w'' ⟨rfl, rfl, rfl⟩
  simp [Leaves, settle, results, Tryd.results83, go_sem]
  exact below_two _ _ _ _ _ _
end Go.Proofs.YtbagmjedkcipgaaDoor
namespace Go.Proofs.YtbagmjedkcipgaaDoor
open Go.RowKit Fix

theorem within_no (n m : Int) (w : World) (hm : 0 ≤ m) (hm2 : m ≤ 4611686018427387904) (h : n < -m ∨ m < n) :
    Calls Tryd.prog 91 #[.int .i64 n, .int .i64 m] w fun e w' => e = gaveUp 2 ∧ w = w' := by
  rcases h with h | h
  · exact within_low n m w hm hm2 h
  · exact within_high n m w hm hm2 h
theorem within_s (n m : Int) (w : World) (hm : 0 ≤ m) (hm2 : m ≤ 4611686018427387904) (h1 : -m ≤ n) (h2 : n ≤ m) :
    Calls Tryd.prog 91 #[.int .i64 n, .int .i64 m] w fun e w' => e = .returned (.int .i64 n) ∧ w' = w :=
  (within_ok n m _ hm hm2 h1 h2).mono fun _ _ ⟨e1, e2⟩ => ⟨e1, e2.symm⟩
theorem sized_s (n : Int) (w : World) (h1 : -1073741824 ≤ n) (h2 : n ≤ 1073741824) :
    Calls Tryd.prog 85 #[.int .i64 n] w fun e w' => e = .returned (.int .i64 n) ∧ w' = w :=
  (sized_ok n _ h1 h2).mono fun _ _ ⟨e1, e2⟩ => ⟨e1, e2.symm⟩

end Go.Proofs.YtbagmjedkcipgaaDoor
namespace Go.Proofs.YtbagmjedkcipgaaDoor
open Go.RowKit Fix

/-- A product of two numbers in range, and its quotient by One. -/
theorem mul_bounds {a b : Int} (a1 : -1073741824 ≤ a) (a2 : a ≤ 1073741824) (b1 : -1073741824 ≤ b) (b2 : b ≤ 1073741824) : -1152921504606846976 ≤ a * b ∧ a * b ≤ 1152921504606846976 := by
  have h : (a * b).natAbs ≤ 1073741824 * 1073741824 := by
    rw [Int.natAbs_mul]
    exact Nat.mul_le_mul (by omega) (by omega)
  omega
theorem div_bounds {n : Int} (h1 : -4611686018427387904 ≤ n) (h2 : n ≤ 4611686018427387904) : -4611686018427387904 ≤ n.tdiv 10000 ∧ n.tdiv 10000 ≤ 4611686018427387904 := by
  have e := Int.mul_tdiv_add_tmod n 10000
  have r1 := Int.tmod_lt_of_pos n (by decide : (0 : Int) < 10000)
  have r2 := Int.lt_tmod_of_pos n (by decide : (0 : Int) < 10000)
  omega

end Go.Proofs.YtbagmjedkcipgaaDoor
namespace Go.Proofs.YtbagmjedkcipgaaDoor
open Go.RowKit Fix

/-- The value, and the error, of a product. -/
def mulN (a b : Int) : Int := if inRange a && inRange b && inRange (nearS (a * b) 10000) then nearS (a * b) 10000 else 0
def mulE (a b : Int) : Int := if inRange a && inRange b && inRange (nearS (a * b) 10000) then 0 else 2

end Go.Proofs.YtbagmjedkcipgaaDoor
namespace Go.Proofs.YtbagmjedkcipgaaDoor
open Go.RowKit Fix

theorem tdiv_bounds {n d M : Int} (h1 : -M ≤ n) (h2 : n ≤ M) : -M ≤ n.tdiv d ∧ n.tdiv d ≤ M := by
  have h := Int.natAbs_tdiv n d
  have h3 : (n.tdiv d).natAbs ≤ n.natAbs := h ▸ Nat.div_le_self _ _
  clear h
  omega

end Go.Proofs.YtbagmjedkcipgaaDoor
namespace Go.Proofs.YtbagmjedkcipgaaDoor
open Go.RowKit Fix

/-- The quotient before its range is looked at. -/
def divQ (a b : Int) : Int := if b < 0 then nearS (-(a * 10000)) (-b) else nearS (a * 10000) b
def divN (a b : Int) : Int := if inRange a && inRange b then (if b = 0 then 0 else if inRange (divQ a b) then divQ a b else 0) else 0
def divE (a b : Int) : Int := if inRange a && inRange b then (if b = 0 then 1 else if inRange (divQ a b) then 0 else 2) else 2

end Go.Proofs.YtbagmjedkcipgaaDoor
namespace Go.Proofs.YtbagmjedkcipgaaDoor
open Go.RowKit Fix

theorem wrap_pow (k : Nat) : IntKind.i64.wrap ((2 : Int) ^ (21 - k)) = (2 : Int) ^ (21 - k) := by
  have hb : (2 : Nat) ^ (21 - k) ≤ 2 ^ 21 := Nat.pow_le_pow_right (by decide) (by omega)
  have hc : ((2 : Int) ^ (21 - k)) = ((2 ^ (21 - k) : Nat) : Int) := by norm_cast
  generalize (2 : Nat) ^ (21 - k) = m at hb hc
  rw [hc]
  exact IntWalk.i64_in _ (by omega)
theorem pow_half (k : Nat) (h : k < 22) : (2 : Int) ^ (22 - k) = 2 * (2 : Int) ^ (21 - k) := by
  rw [show 22 - k = (21 - k) + 1 by omega, Int.pow_succ, Int.mul_comm]
theorem pow_pos21 (k : Nat) : 0 < (2 : Int) ^ (21 - k) := Int.pow_pos (by decide)

end Go.Proofs.YtbagmjedkcipgaaDoor
namespace Go.Proofs.YtbagmjedkcipgaaDoor
open Go.RowKit Fix

theorem root_exists (n : Nat) : ∃ s : Nat, s * s ≤ n ∧ n < (s + 1) * (s + 1) := by
  induction n with
  | zero => exact ⟨0, by omega, by omega⟩
  | succ n ih =>
    obtain ⟨s, h1, h2⟩ := ih
    by_cases h : n + 1 < (s + 1) * (s + 1)
    · exact ⟨s, by omega, h⟩
    · refine ⟨s + 1, by omega, ?_⟩
      have e : (s + 1 + 1) * (s + 1 + 1) = (s + 1) * (s + 1) + 2 * (s + 1) + 1 := by rw [Nat.add_mul (s + 1) 1, Nat.mul_add (s + 1)]; omega
      omega
theorem root_exists_int (n : Int) (h : 0 ≤ n) : ∃ s : Int, 0 ≤ s ∧ s * s ≤ n ∧ n < (s + 1) * (s + 1) := by
  obtain ⟨s, h1, h2⟩ := root_exists n.toNat
  have h3 : ((s * s : Nat) : Int) ≤ (n.toNat : Int) := by exact_mod_cast h1
  have h4 : (n.toNat : Int) < (((s + 1) * (s + 1) : Nat) : Int) := by exact_mod_cast h2
  rw [Int.toNat_of_nonneg h] at h3 h4
  push_cast at h3 h4
  exact ⟨s, by omega, h3, h4⟩
/-- The integer square root. -/
noncomputable def rootS (n : Int) : Int := if h : 0 ≤ n then (root_exists_int n h).choose else 0
theorem rootS_spec (n : Int) (h : 0 ≤ n) : 0 ≤ rootS n ∧ rootS n * rootS n ≤ n ∧ n < (rootS n + 1) * (rootS n + 1) := by
  unfold rootS
  rw [dif_pos h]
  exact (root_exists_int n h).choose_spec
noncomputable def rootN (a : Int) : Int := if inRange a then (if a < 0 then 0 else rootS (a * 10000)) else 0
def rootE (a : Int) : Int := if inRange a then (if a < 0 then 1 else 0) else 2

end Go.Proofs.YtbagmjedkcipgaaDoor
namespace Go.Proofs.YtbagmjedkcipgaaDoor
open Go.RowKit Fix

/-- The slice's elements, as the world holds them: at no element nothing is asked of the address. -/
def ReadsInts (w : World) (a : Option Addr) (xs : List Int) : Prop := ∀ j (h : j < xs.length), ∃ b off : Nat, a = some ⟨b, off, none⟩ ∧ w.cell? ⟨b, off + j, none⟩ = some (.int .i64 xs[j])

def sumL (xs : List Int) : Int := xs.foldl (· + ·) 0
theorem sumL_more (xs : List Int) (k : Nat) (h : k < xs.length) : sumL (xs.take (k + 1)) = sumL (xs.take k) + xs[k] := by
  unfold sumL
  rw [List.take_succ_eq_append_getElem h, List.foldl_append]
  rfl
theorem all_more (xs : List Int) (k : Nat) (h : k < xs.length) : (xs.take (k + 1)).all inRange = ((xs.take k).all inRange && inRange xs[k]) := by
  rw [List.take_succ_eq_append_getElem h, List.all_append]
  simp
theorem all_not (xs : List Int) (k : Nat) (h : k < xs.length) (hb : ¬ inRange xs[k] = true) : xs.all inRange = false := by
  rw [List.all_eq_false]
  exact ⟨xs[k], List.getElem_mem h, hb⟩
def sumN (xs : List Int) : Int := if xs.all inRange && inRange (sumL xs) then sumL xs else 0
def sumE (xs : List Int) : Int := if xs.all inRange && inRange (sumL xs) then 0 else 2
/-- How the work of Sum ends. -/
def sumEnd (xs : List Int) : Ending := if xs.all inRange && inRange (sumL xs) then .returned (.int .i64 (sumL xs)) else gaveUp 2
theorem sumEnd_bad (xs : List Int) (h : xs.all inRange = false) : sumEnd xs = gaveUp 2 := by unfold sumEnd; rw [h]; rfl
theorem sumEnd_big (xs : List Int) (h : ¬ inRange (sumL xs) = true) : sumEnd xs = gaveUp 2 := by unfold sumEnd; rw [Bool.eq_false_iff.2 h, Bool.and_false]; rfl
theorem sumEnd_ok (xs : List Int) (h : xs.all inRange = true) (h2 : inRange (sumL xs) = true) : sumEnd xs = .returned (.int .i64 (sumL xs)) := by unfold sumEnd; rw [h, h2]; rfl

end Go.Proofs.YtbagmjedkcipgaaDoor
namespace Go.Proofs.YtbagmjedkcipgaaDoor
open Go.RowKit Fix

theorem reads_below {w w' : World} {a : Option Addr} {xs : List Int} (h : ReadsInts w a xs) (hb : Below w.heap.size w w') : ReadsInts w' a xs := fun j hj =>
  let ⟨b, off, ha, hc⟩ := h j hj
  ⟨b, off, ha, cell_later hb hc⟩

theorem below_three (w : World) (o o' o'' : Obj) : Below w.heap.size w (((w.alloc o).alloc o').alloc o'') :=
  (((Below.refl _ _).alloc (Nat.le_refl _) _).alloc (by simp) _).alloc (by simp; omega) _

end Go.Proofs.YtbagmjedkcipgaaDoor
