/-
  Lemmas and walks, joined: FixMath, FixA, FixB, FixC, FixT, FixU, FixV, FixW, FixTm, FixRm.
-/
import Derived.Below
import Derived.Test.YtdpbpdikgcepbaaGreatDoorHz01
import Derived.WalkKit
import Derived.WalkSpells
import Derived.WalkLawsBesides
import Derived.Lib.Hide
import Derived.Deep.QuietTactic
import Derived.BigQuiet
import Derived.IntWalk
import Derived.Defers
import Derived.Recover
import Derived.Laws.Pointers
import Derived.Deep.RegionWith
import Derived.RegionDies
import Derived.LoopTactic
import Derived.Test.YtdpbpdikgcepbaaGreatDoorHz03
import Derived.Laws.IdiomStrings
import Derived.OwnWalk
import Derived.Lib.ItoaNum
import Derived.Lib.ItoaLen
import Derived.Lib.TrimByte
import Derived.Lib.IndexBytes
import Derived.Lib.IndexMore
namespace Go.Proofs.YtdpbpdikgcepbaaGreatDoor.Fix

/-- n/by to the nearest integer, halves up. -/
def nearS (n d : Int) : Int := (2 * n + d) / (2 * d)

/-- What Go's text computes from its truncated quotient and rest. -/
theorem near_go (n d : Int) (hd : 0 < d) :
    nearS n d = (if n.tmod d < 0 then (if d - (n.tmod d + d) ≤ n.tmod d + d then n.tdiv d - 1 + 1 else n.tdiv d - 1) else (if d - n.tmod d ≤ n.tmod d then n.tdiv d + 1 else n.tdiv d)) := by
  have hdm : d * (n.tdiv d) + n.tmod d = n := Int.mul_tdiv_add_tmod n d
  have hq : ∀ q r : Int, n = d * q + r → 0 ≤ r → r < d → nearS n d = if d - r ≤ r then q + 1 else q := by
    intro q r hn h0 h1
    have e : 2 * n + d = (2 * r + d) + q * (2 * d) := by
      rw [hn, Int.mul_add, Int.mul_comm q (2 * d), Int.mul_assoc]; omega
    unfold nearS
    rw [e, Int.add_mul_ediv_right _ _ (by omega : (2 * d) ≠ 0)]
    by_cases h : d - r ≤ r
    · rw [if_pos h]
      have : (2 * r + d) / (2 * d) = 1 := by
        have e1 : 2 * r + d = (2 * r - d) + 1 * (2 * d) := by omega
        rw [e1, Int.add_mul_ediv_right _ _ (by omega : (2 * d) ≠ 0), Int.ediv_eq_zero_of_lt (by omega) (by omega)]
        rfl
      rw [this]; omega
    · rw [if_neg h, Int.ediv_eq_zero_of_lt (by omega) (by omega)]
      omega
  have hlt : n.tmod d < d := Int.tmod_lt_of_pos n hd
  have hgt : -d < n.tmod d := by
    have := Int.lt_tmod_of_pos n hd
    omega
  by_cases h : n.tmod d < 0
  · rw [if_pos h, hq (n.tdiv d - 1) (n.tmod d + d) (by rw [Int.mul_sub, Int.mul_one]; omega) (by omega) (by omega)]
  · rw [if_neg h, hq (n.tdiv d) (n.tmod d) (by omega) (by omega) hlt]

/-- To the nearest: within a half, halves up. -/
theorem near_bounds (n d : Int) (hd : 0 < d) : d * (2 * nearS n d - 1) ≤ 2 * n ∧ 2 * n < d * (2 * nearS n d + 1) := by
  have h1 : (2 * d) * nearS n d ≤ 2 * n + d := Int.mul_ediv_self_le (by omega)
  have h2 : 2 * n + d < (2 * d) * nearS n d + 2 * d := Int.lt_mul_ediv_self_add (by omega)
  rw [Int.mul_sub, Int.mul_add]
  have e : d * (2 * nearS n d) = (2 * d) * nearS n d := by rw [← Int.mul_assoc, Int.mul_comm d 2]
  rw [e, Int.mul_one]
  omega

theorem near_exact (a d : Int) (hd : 0 < d) : nearS (a * d) d = a := by
  unfold nearS
  have e : 2 * (a * d) + d = d + a * (2 * d) := by
    rw [← Int.mul_assoc, Int.mul_comm 2 a, Int.mul_assoc]; omega
  rw [e, Int.add_mul_ediv_right _ _ (by omega : (2 * d) ≠ 0), Int.ediv_eq_zero_of_lt (by omega) (by omega)]
  omega

theorem near_le {n d b : Int} (hd : 0 < d) (h : n ≤ b * d) : nearS n d ≤ b := by
  have := Int.ediv_le_ediv (c := 2 * d) (by omega) (show 2 * n + d ≤ 2 * (b * d) + d by omega)
  exact Int.le_trans this (Int.le_of_eq (near_exact b d hd))
theorem near_ge {n d b : Int} (hd : 0 < d) (h : b * d ≤ n) : b ≤ nearS n d := by
  have := Int.ediv_le_ediv (c := 2 * d) (by omega) (show 2 * (b * d) + d ≤ 2 * n + d by omega)
  exact Int.le_trans (Int.le_of_eq (near_exact b d hd).symm) this

/-- The root, bit by bit: what is found of it before bit k, for a root below 2^top. -/
theorem root_step (n r b : Int) (_h0 : 0 ≤ r) (_hb : 0 < b) (h1 : r * r ≤ n) (h2 : n < (r + 2 * b) * (r + 2 * b)) :
    (if (r + b) * (r + b) ≤ n then (r + b) * (r + b) ≤ n ∧ n < (r + b + b) * (r + b + b) else r * r ≤ n ∧ n < (r + b) * (r + b)) := by
  split
  · rename_i h
    exact ⟨h, by rwa [show r + b + b = r + 2 * b by omega]⟩
  · rename_i h
    exact ⟨h1, by omega⟩

theorem root_unique (n r s : Int) (hr : 0 ≤ r) (hs : 0 ≤ s) (r1 : r * r ≤ n) (r2 : n < (r + 1) * (r + 1)) (s1 : s * s ≤ n) (s2 : n < (s + 1) * (s + 1)) : r = s := by
  rcases Int.lt_trichotomy r s with h | h | h
  · have : (r + 1) * (r + 1) ≤ s * s := Int.mul_le_mul (by omega) (by omega) (by omega) (by omega)
    omega
  · exact h
  · have : (s + 1) * (s + 1) ≤ r * r := Int.mul_le_mul (by omega) (by omega) (by omega) (by omega)
    omega
def inRange (n : Int) : Bool := decide (-1073741824 ≤ n) && decide (n ≤ 1073741824)
theorem inRange_yes {n : Int} (h : inRange n = true) : -1073741824 ≤ n ∧ n ≤ 1073741824 := by
  unfold inRange at h
  simpa using h
theorem inRange_no {n : Int} (h : ¬ inRange n = true) : n < -1073741824 ∨ 1073741824 < n := by
  unfold inRange at h
  simp at h
  omega
end Go.Proofs.YtdpbpdikgcepbaaGreatDoor.Fix
namespace Go.Proofs.YtdpbpdikgcepbaaGreatDoor
open Go.RowKit Fix


/-- The panic with an error number. -/
def gaveUp (e : Int) : Ending := .panicked [{ v := .iface 23 (.int .i64 e), recovered := false }]

theorem within_ok (n m : Int) (w : World) (hm : 0 ≤ m) (hm2 : m ≤ 4611686018427387904) (h1 : -m ≤ n) (h2 : n ≤ m) :
    Calls Tryz.prog 120 #[.int .i64 n, .int .i64 m] w fun e w' => e = .returned (.int .i64 n) ∧ w = w' := by
  go_enter Tryz.func120, Tryz.ntmps120
  go_wp2
  go_ret
  exact ⟨rfl, rfl⟩
theorem within_low (n m : Int) (w : World) (hm : 0 ≤ m) (hm2 : m ≤ 4611686018427387904) (h1 : n < -m) :
    Calls Tryz.prog 120 #[.int .i64 n, .int .i64 m] w fun e w' => e = gaveUp 2 ∧ w = w' := by
  go_enter Tryz.func120, Tryz.ntmps120
  go_wp2
  exact ⟨rfl, rfl, rfl⟩
theorem within_high (n m : Int) (w : World) (hm : 0 ≤ m) (hm2 : m ≤ 4611686018427387904) (h1 : m < n) :
    Calls Tryz.prog 120 #[.int .i64 n, .int .i64 m] w fun e w' => e = gaveUp 2 ∧ w = w' := by
  go_enter Tryz.func120, Tryz.ntmps120
  go_wp2
  exact ⟨rfl, rfl, rfl⟩

theorem sized_ok (n : Int) (w : World) (h1 : -1073741824 ≤ n) (h2 : n ≤ 1073741824) :
    Calls Tryz.prog 97 #[.int .i64 n] w fun e w' => e = .returned (.int .i64 n) ∧ w = w' := by
  go_enter Tryz.func97, Tryz.ntmps97
  go_wp2_with fail
  refine (within_ok n 1073741824 _ (by decide) (by decide) h1 h2).mono ?_
  rintro e w' ⟨rfl, rfl⟩
  go_wp2_with fail
  go_ret
  exact ⟨rfl, rfl⟩
theorem sized_no (n : Int) (w : World) (h : n < -1073741824 ∨ 1073741824 < n) :
    Calls Tryz.prog 97 #[.int .i64 n] w fun e w' => e = gaveUp 2 ∧ w = w' := by
  rcases h with h | h
  · go_enter Tryz.func97, Tryz.ntmps97
    go_wp2_with fail
    refine (within_low n 1073741824 _ (by decide) (by decide) h).mono ?_
    rintro e w' ⟨rfl, rfl⟩
    exact ⟨rfl, rfl, rfl⟩
  · go_enter Tryz.func97, Tryz.ntmps97
    go_wp2_with fail
    refine (within_high n 1073741824 _ (by decide) (by decide) h).mono ?_
    rintro e w' ⟨rfl, rfl⟩
    exact ⟨rfl, rfl, rfl⟩

end Go.Proofs.YtdpbpdikgcepbaaGreatDoor
namespace Go.Proofs.YtdpbpdikgcepbaaGreatDoor
open Go.RowKit Fix

theorem reason_errno (x : Int) (w : World) :
    Calls Tryz.prog 118 #[.iface 23 (.int .i64 x)] w fun e w' => e = .returned (.int .i64 x) ∧ w = w' := by
  have hta : ∀ w : World, (Instr.typeAssert (.iface 23 (.int .i64 x)) 20 23 true).run Tryz.prog w = .ok (.tuple #[.int .i64 x, .bool true]) w := fun _ => by kernel_rfl
  go_enter Tryz.func118, Tryz.ntmps118
  go_wp2
  go_ret
  exact ⟨rfl, rfl⟩

theorem catch_panicking (p q : Addr) (a b x : Int) (older : List PanicEntry) (w : World) (hp : w.cell? p = some (.int .i64 a)) (hz : w.frozen? p = false)
    (hq : (w.setCell p (.int .i64 0)).cell? q = some (.int .i64 b)) (hzq : (w.setCell p (.int .i64 0)).frozen? q = false) :
    CallsD Tryz.prog 117 #[.pointer (some p), .pointer (some q)] (.panicking ({ v := .iface 23 (.int .i64 x), recovered := false } :: older)) w fun e u' w' =>
      e = .returned (.tuple #[]) ∧ u' = .panicking ({ v := .iface 23 (.int .i64 x), recovered := true } :: older) ∧ w' = (w.setCell p (.int .i64 0)).setCell q (.int .i64 x) := by
  refine callsD_of_wpS Tryz.func117 rfl fun c₀ cs hu => ?_
  apply wpS_seq
  apply wpS_region
  simp [wpOpsS, go_sem, recoverD, hu, Tryz.ntmps117, Exit.thenS]
  refine wpS_of_wp ?_
  change Code.wp Tryz.prog _ _ { tmps := #[.pointer (some p), .pointer (some q), .iface 23 (.int .i64 x), .iface 23 (.int .i64 x), undef, undef, undef, undef], defers := [] } w
  go_wp2_with (go_at_call 118; refine (reason_errno _ _).mono ?_; rintro e w' ⟨rfl, rfl⟩)
  simp [bodyPostS, results, Tryz.results117]

theorem catch_idle (p q : Addr) (w : World) :
    CallsD Tryz.prog 117 #[.pointer (some p), .pointer (some q)] .returning w fun e u' w' => e = .returned (.tuple #[]) ∧ u' = .returning ∧ w' = w := by
  refine callsD_of_wpS Tryz.func117 rfl fun c₀ cs hu => ?_
  apply wpS_seq
  apply wpS_region
  simp [wpOpsS, go_sem, recoverD, hu, Tryz.ntmps117, Exit.thenS]
  refine wpS_of_wp ?_
  change Code.wp Tryz.prog _ _ { tmps := #[.pointer (some p), .pointer (some q), .nilIface, .nilIface, undef, undef, undef, undef], defers := [] } w
  go_wp2_with fail
  cases c₀
  simp_all [bodyPostS, results, Tryz.results117]

theorem below_two (w : World) (k : Nat) (o o' : Obj) (u u' : Value) : Below w.heap.size w (((((w.alloc o).alloc o').drewN k).setCell ⟨w.heap.size, 0, none⟩ u).setCell ⟨w.heap.size + 1, 0, none⟩ u') :=
  ((below_drewN (((Below.refl _ _).alloc (Nat.le_refl _) _).alloc (by simp) _) k).setCell (p := ⟨w.heap.size, 0, none⟩) (Nat.le_refl _) u).setCell (p := ⟨w.heap.size + 1, 0, none⟩) (Nat.le_succ _) u'

/-- attempt, where the work returns n. -/
theorem attempt_ok (F : FuncId) (caps : Array Value) (n : Int) (w : World) (henter : ∀ W : World, (callFunc F caps).run Tryz.prog W = .ok (.enter F caps) W)
    (hwork : Calls Tryz.prog F caps ((w.alloc (.cells #[.int .i64 0] 2)).alloc (.cells #[.int .i64 0] 23)) fun e w' => e = .returned (.int .i64 n) ∧ ∃ k, w' = ((w.alloc (.cells #[.int .i64 0] 2)).alloc (.cells #[.int .i64 0] 23)).drewN k) :
    Calls Tryz.prog 93 #[.func (.func F) #[] caps] w fun e w' => e = .returned (.tuple #[.int .i64 n, .int .i64 0]) ∧ Below w.heap.size w w' := by
  have hmf : ∀ (fn : Fn) (first cap : Array Value) (w : World), (Instr.makeFunc fn first cap).run Tryz.prog w = .ok (.func fn first cap) w := fun _ _ _ _ => rfl
  have HW := Lib.hid hwork
  clear hwork
  go_enter_defers Tryz.func93, Tryz.ntmps93
  go_wp2_with fail
  refine HW.out.mono ?_
  rintro e w1 ⟨rfl, k, rfl⟩
  go_wp2_with fail
  refine leaves_cons (f := 117) (args := #[.pointer (some ⟨w.heap.size, 0, none⟩), .pointer (some ⟨w.heap.size + 1, 0, none⟩)]) (by simp) (by simp [go_sem]) ?_
  refine (catch_idle ⟨w.heap.size, 0, none⟩ ⟨w.heap.size + 1, 0, none⟩ _).mono ?_
  rintro e u' w'' ⟨rfl, rfl, rfl⟩
  simp [Leaves, settle, results, Tryz.results93, go_sem]
  exact below_two _ _ _ _ _ _

/-- attempt, where the work gives up with the error x. -/
theorem attempt_no (F : FuncId) (caps : Array Value) (x : Int) (w : World) (henter : ∀ W : World, (callFunc F caps).run Tryz.prog W = .ok (.enter F caps) W)
    (hwork : Calls Tryz.prog F caps ((w.alloc (.cells #[.int .i64 0] 2)).alloc (.cells #[.int .i64 0] 23)) fun e w' => e = gaveUp x ∧ ∃ k, w' = ((w.alloc (.cells #[.int .i64 0] 2)).alloc (.cells #[.int .i64 0] 23)).drewN k) :
    Calls Tryz.prog 93 #[.func (.func F) #[] caps] w fun e w' => e = .returned (.tuple #[.int .i64 0, .int .i64 x]) ∧ Below w.heap.size w w' := by
  have hmf : ∀ (fn : Fn) (first cap : Array Value) (w : World), (Instr.makeFunc fn first cap).run Tryz.prog w = .ok (.func fn first cap) w := fun _ _ _ _ => rfl
  have HW := Lib.hid hwork
  clear hwork
  go_enter_defers Tryz.func93, Tryz.ntmps93
  go_wp2_with fail
  refine HW.out.mono ?_
  rintro e w1 ⟨rfl, k, rfl⟩
  unfold gaveUp
  go_wp2_with fail
  refine leaves_cons (f := 117) (args := #[.pointer (some ⟨w.heap.size, 0, none⟩), .pointer (some ⟨w.heap.size + 1, 0, none⟩)]) (by simp) (by simp [go_sem]) ?_
  refine (catch_panicking ⟨w.heap.size, 0, none⟩ ⟨w.heap.size + 1, 0, none⟩ 0 0 x [] _ ?_ ?_ ?_ ?_).mono ?_
  · simp [go_sem]
  · simp [go_sem]
  · simp [go_sem]
  · simp [go_sem]
  rintro e u' w'' ⟨rfl, rfl, rfl⟩
  simp [Leaves, settle, results, Tryz.results93, go_sem]
  exact below_two _ _ _ _ _ _
end Go.Proofs.YtdpbpdikgcepbaaGreatDoor
namespace Go.Proofs.YtdpbpdikgcepbaaGreatDoor
open Go.RowKit Fix

theorem within_no (n m : Int) (w : World) (hm : 0 ≤ m) (hm2 : m ≤ 4611686018427387904) (h : n < -m ∨ m < n) :
    Calls Tryz.prog 120 #[.int .i64 n, .int .i64 m] w fun e w' => e = gaveUp 2 ∧ w = w' := by
  rcases h with h | h
  · exact within_low n m w hm hm2 h
  · exact within_high n m w hm hm2 h
theorem within_s (n m : Int) (w : World) (hm : 0 ≤ m) (hm2 : m ≤ 4611686018427387904) (h1 : -m ≤ n) (h2 : n ≤ m) :
    Calls Tryz.prog 120 #[.int .i64 n, .int .i64 m] w fun e w' => e = .returned (.int .i64 n) ∧ w' = w :=
  (within_ok n m _ hm hm2 h1 h2).mono fun _ _ ⟨e1, e2⟩ => ⟨e1, e2.symm⟩
theorem sized_s (n : Int) (w : World) (h1 : -1073741824 ≤ n) (h2 : n ≤ 1073741824) :
    Calls Tryz.prog 97 #[.int .i64 n] w fun e w' => e = .returned (.int .i64 n) ∧ w' = w :=
  (sized_ok n _ h1 h2).mono fun _ _ ⟨e1, e2⟩ => ⟨e1, e2.symm⟩

end Go.Proofs.YtdpbpdikgcepbaaGreatDoor
namespace Go.Proofs.YtdpbpdikgcepbaaGreatDoor
open Go.RowKit Fix

def isDig (b : UInt8) : Bool := decide (48 ≤ b.toNat) && decide (b.toNat ≤ 57)
theorem isDig_yes {b : UInt8} (h : isDig b = true) : 48 ≤ b.toNat ∧ b.toNat ≤ 57 := by unfold isDig at h; simpa using h
theorem isDig_no {b : UInt8} (h : ¬ isDig b = true) : b.toNat < 48 ∨ 57 < b.toNat := by unfold isDig at h; simp at h; omega
def decB (s : ByteArray) : Bool := s.data.toList.all isDig
theorem decB_no (s : ByteArray) (k : Nat) (h : k < s.size) (hb : ¬ isDig s[k] = true) : decB s = false := by
  unfold decB
  rw [List.all_eq_false]
  exact ⟨s[k], by rw [Array.mem_toList_iff]; exact Array.getElem_mem h, hb⟩
theorem decB_yes (s : ByteArray) (h : ∀ k (hk : k < s.size), isDig s[k] = true) : decB s = true := by
  unfold decB
  rw [List.all_eq_true]
  intro x hx
  rw [Array.mem_toList_iff] at hx
  obtain ⟨k, hk, rfl⟩ := Array.getElem_of_mem hx
  exact h k hk


set_option maxHeartbeats 1600000 in
theorem decimal_any (s : ByteArray) (w : World) (hs : s.size ≤ 4000000000) :
    Calls Tryz.prog 92 #[.string s] w fun e w' => e = .returned (.bool (decB s)) ∧ w' = w := by
  go_enter Tryz.func92, Tryz.ntmps92
  go_wp2
  go_loopw [6] (fun i wr => ∃ k : Nat, k ≤ s.size ∧ i = .int .i64 k ∧ Hid (∀ j (hj : j < s.size), j < k → isDig s[j] = true) ∧ wr = w) (fun i _ => s.size - (intOf i).toNat)
  case atStart => exact ⟨0, by omega, rfl, Lib.hid (fun j _ h => by omega), rfl⟩
  case round =>
    obtain ⟨k, hk, rfl, hinv, rfl⟩ := hrel
    by_cases hlt : k < s.size
    · by_cases hx : isDig s[k] = true
      · have H := Lib.hid hx
        obtain ⟨h1, h2⟩ := isDig_yes hx
        have h3 : ¬ (s[k].toNat : Int) < 48 := by omega
        have h4 : ¬ (57 : Int) < (s[k].toNat : Int) := by omega
        clear hx h1 h2
        go_wp2
        go_roundw
        case rel =>
          exact ⟨k + 1, by omega, by go_num, Lib.hid (fun j hj h => by
            by_cases hjk : j < k
            · exact hinv.out j hj hjk
            · obtain rfl : j = k := by omega
              exact H.out), trivial⟩
        case measure => simp [intOf]; omega
      · have he := Lib.hid (decB_no s k hlt hx)
        rcases isDig_no hx with h1 | h1
        · have h3 : (s[k].toNat : Int) < 48 := by omega
          clear hx h1
          go_wp2
          go_ret
          exact ⟨ret_bool he.out.symm, rfl⟩
        · have h3 : ¬ (s[k].toNat : Int) < 48 := by omega
          have h4 : (57 : Int) < (s[k].toNat : Int) := by omega
          clear hx h1
          go_wp2
          go_ret
          exact ⟨ret_bool he.out.symm, rfl⟩
    · have he := Lib.hid (decB_yes s (fun j hj => hinv.out j hj (by omega)))
      have hkk : k = s.size := by omega
      subst hkk
      clear hinv
      go_wp2
      go_ret
      exact ⟨ret_bool he.out.symm, rfl⟩
end Go.Proofs.YtdpbpdikgcepbaaGreatDoor
namespace Go.Proofs.YtdpbpdikgcepbaaGreatDoor
open Go.RowKit Fix

/-- The number that the digits of l make behind n. -/
def valL (n : Int) : List UInt8 → Int
  | [] => n
  | b :: l => valL (10 * n + ((b.toNat : Int) - 48)) l
theorem valL_append (n : Int) (l m : List UInt8) : valL n (l ++ m) = valL (valL n l) m := by
  induction l generalizing n with
  | nil => rfl
  | cons b l ih => exact ih _
theorem valL_more (l : List UInt8) (k : Nat) (h : k < l.length) : valL 0 (l.take (k + 1)) = 10 * valL 0 (l.take k) + ((l[k].toNat : Int) - 48) := by
  rw [List.take_succ_eq_append_getElem h, valL_append]
  rfl
theorem valL_ge (n : Int) (l : List UInt8) (hn : 0 ≤ n) (h : l.all isDig = true) : n ≤ valL n l := by
  induction l generalizing n with
  | nil => exact Int.le_refl _
  | cons b l ih =>
    rw [List.all_cons, Bool.and_eq_true] at h
    have hb := isDig_yes h.1
    have := ih (10 * n + ((b.toNat : Int) - 48)) (by omega) h.2
    show n ≤ valL (10 * n + ((b.toNat : Int) - 48)) l
    omega
/-- A prefix makes no greater number than the whole. -/
theorem valL_take (l : List UInt8) (k : Nat) (h : l.all isDig = true) : 0 ≤ valL 0 (l.take k) ∧ valL 0 (l.take k) ≤ valL 0 l := by
  have ht : (l.take k).all isDig = true ∧ (l.drop k).all isDig = true := by
    rw [← Bool.and_eq_true, ← List.all_append, List.take_append_drop]; exact h
  have h0 := valL_ge 0 (l.take k) (by decide) ht.1
  refine ⟨h0, ?_⟩
  have := valL_ge (valL 0 (l.take k)) (l.drop k) h0 ht.2
  rwa [← valL_append, List.take_append_drop] at this

def countEnd (l : List UInt8) : Ending := if valL 0 l ≤ 1073741824 then .returned (.int .i64 (valL 0 l)) else gaveUp 2

set_option maxHeartbeats 1600000 in
theorem count_any (s : ByteArray) (w : World) (hs : s.size ≤ 4000000000) (hd : s.data.toList.all isDig = true) :
    Calls Tryz.prog 95 #[.string s] w fun e w' => e = countEnd s.data.toList ∧ w' = w := by
  have HD := Lib.hid hd
  clear hd
  have hlen : s.data.toList.length = s.size := by simp
  go_enter Tryz.func95, Tryz.ntmps95
  go_wp2
  go_loopw [3, 7] (fun v i wr => ∃ (k : Nat) (n : Int), k ≤ s.size ∧ v = .int .i64 n ∧ i = .int .i64 k ∧ Hid (n = valL 0 (s.data.toList.take k)) ∧ 0 ≤ n ∧ n ≤ 1073741824 ∧ wr = w) (fun _ i _ => s.size - (intOf i).toNat)
  case atStart => exact ⟨0, 0, by omega, rfl, rfl, Lib.hid rfl, by decide, by decide, rfl⟩
  case round =>
    obtain ⟨k, n, hk, rfl, rfl, hinv, n0, n1, rfl⟩ := hrel
    by_cases hlt : k < s.size
    · have hm : isDig s[k] = true := (List.all_eq_true.1 HD.out) s[k] (by rw [Array.mem_toList_iff]; exact Array.getElem_mem hlt)
      obtain ⟨d1, d2⟩ := isDig_yes hm
      have hnext := valL_more s.data.toList k (by rw [hlen]; exact hlt)
      rw [← hinv.out] at hnext
      have hnext' : valL 0 (s.data.toList.take (k + 1)) = 10 * n + ((s[k].toNat : Int) - 48) := hnext
      have HNX := Lib.hid hnext'
      have htop := (valL_take s.data.toList (k + 1) HD.out).2
      have hw1 : IntKind.i64.wrap (10 * n) = 10 * n := IntWalk.i64_in _ (by omega)
      have hw2 : IntKind.u8.wrap ((s[k].toNat : Int) - 48) = (s[k].toNat : Int) - 48 := by
        rw [show (s[k].toNat : Int) - 48 = ((s[k].toNat - 48 : Nat) : Int) by omega]
        exact IntWalk.u8_in _ (by omega)
      have hw3 : IntKind.i64.wrap ((s[k].toNat : Int) - 48) = (s[k].toNat : Int) - 48 := IntWalk.i64_in _ (by omega)
      have hw4 : IntKind.i64.wrap (10 * n + ((s[k].toNat : Int) - 48)) = 10 * n + ((s[k].toNat : Int) - 48) := IntWalk.i64_in _ (by omega)
      by_cases hc : 10 * n + ((s[k].toNat : Int) - 48) ≤ 1073741824
      · have HC := Lib.hid (And.intro hc (And.intro d1 d2))
        clear hc d1 d2 hnext hnext' htop hm
        go_wp2_with fail
        refine (sized_ok _ _ (by have := HC.out; omega) HC.out.1).mono ?_
        rintro e w' ⟨rfl, rfl⟩
        go_wp2
        go_roundw
        case rel =>
          exact ⟨k + 1, _, by omega, rfl, by go_num, Lib.hid HNX.out.symm, by have := HC.out; omega, HC.out.1, trivial⟩
        case measure => simp [intOf]; omega
      · have HC := Lib.hid (show 10 * n + ((s[k].toNat : Int) - 48) < -1073741824 ∨ 1073741824 < 10 * n + ((s[k].toNat : Int) - 48) from Or.inr (by omega))
        have he : countEnd s.data.toList = gaveUp 2 := by unfold countEnd; rw [if_neg (by omega)]
        have HE := Lib.hid he
        clear hc d1 d2 hnext hnext' htop hm he
        go_wp2_with fail
        refine (sized_no _ _ HC.out).mono ?_
        rintro e w' ⟨rfl, rfl⟩
        exact ⟨rfl, HE.out.symm, rfl⟩
    · have hkk : k = s.size := by omega
      have hi := hinv.out
      rw [List.take_of_length_le (by omega)] at hi
      have he : countEnd s.data.toList = .returned (.int .i64 n) := by unfold countEnd; rw [← hi, if_pos n1]
      have HE := Lib.hid he
      subst hkk
      clear hinv hi he
      go_wp2
      go_ret
      exact ⟨HE.out.symm, rfl⟩
end Go.Proofs.YtdpbpdikgcepbaaGreatDoor
namespace Go.Proofs.YtdpbpdikgcepbaaGreatDoor
open Go.RowKit Fix

def upPlus (l : List UInt8) : Bool := !Op.bytesLess l [53]
def upMinus (l : List UInt8) : Bool := (!Op.bytesLess (Lib.trimRightB l 48) [53]) && !(Lib.trimRightB l 48 == [53])

theorem up_plus (s : ByteArray) (w : World) :
    Calls Tryz.prog 96 #[.string s, .bool false] w fun e w' => e = .returned (.bool (upPlus s.toList)) ∧ w' = w := by
  go_enter Tryz.func96, Tryz.ntmps96
  go_wp2
  go_ret
  exact ⟨rfl, rfl⟩
theorem up_minus (s : ByteArray) (w : World) (hs : s.size ≤ 4000000000) :
    Calls Tryz.prog 96 #[.string s, .bool true] w fun e w' => e = .returned (.bool (upMinus s.data.toList)) ∧ w' = w := by
  go_enter Tryz.func96, Tryz.ntmps96
  go_wp2_with fail
  refine (Tryz.strings_TrimRight_one s 48 (by decide) _ (by omega)).mono ?_
  rintro e w' ⟨rfl, rfl⟩
  go_wp2
  go_ret
  exact ⟨rfl, rfl⟩
end Go.Proofs.YtdpbpdikgcepbaaGreatDoor
namespace Go.Proofs.YtdpbpdikgcepbaaGreatDoor
open Go.RowKit Fix

/-- The decimal digits of n, at least k of them. -/
def digitsL (n k : Nat) : List UInt8 := if n = 0 ∧ k = 0 then [] else digitsL (n / 10) (k - 1) ++ [48 + UInt8.ofNat (n % 10)]
termination_by n + k
decreasing_by omega
theorem digitsL_zero : digitsL 0 0 = [] := by rw [digitsL]; simp
theorem digitsL_more (n k : Nat) (h : 0 < n ∨ 0 < k) : digitsL n k = digitsL (n / 10) (k - 1) ++ [48 + UInt8.ofNat (n % 10)] := by rw [digitsL, if_neg (by omega)]

theorem digit_val (m : Nat) : ((48 + UInt8.ofNat (m % 10) : UInt8).toNat : Int) = 48 + (m : Int) % 10 := by
  have h : (48 + UInt8.ofNat (m % 10) : UInt8).toNat = (48 + m % 10 % 256) % 256 := by rw [UInt8.toNat_add]; simp
  omega
theorem digits_next (n least m : Nat) (t : ByteArray) (h : 0 < m ∨ 0 < least - t.size) (hinv : digitsL m (least - t.size) ++ t.data.toList = digitsL n least) :
    digitsL (m / 10) (least - (⟨#[48 + UInt8.ofNat (m % 10)]⟩ ++ t : ByteArray).size) ++ (⟨#[48 + UInt8.ofNat (m % 10)]⟩ ++ t : ByteArray).data.toList = digitsL n least := by
  rw [digitsL_more m _ h] at hinv
  rw [ByteArray.size_append, ByteArray.data_append, Array.toList_append, ← hinv, show (⟨#[48 + UInt8.ofNat (m % 10)]⟩ : ByteArray).size = 1 from rfl, show least - (1 + t.size) = least - t.size - 1 by omega, List.append_assoc]
theorem digits_size (m : Nat) (t : ByteArray) : (⟨#[48 + UInt8.ofNat (m % 10)]⟩ ++ t : ByteArray).size = 1 + t.size := by
  rw [ByteArray.size_append]; rfl
theorem digit_string (m : Nat) (wr : World) : (convert 60 9 (.slice (some ⟨wr.heap.size, 0, none⟩) 1 1)).run Tryz.prog (wr.alloc (.cells #[.int .u8 (48 + (m : Int) % 10)] 5)) =
    .ok (.string ⟨#[48 + UInt8.ofNat (m % 10)]⟩) (wr.alloc (.cells #[.int .u8 (48 + (m : Int) % 10)] 5)) := by
  refine run_convert_bytes_back _ _ _ _ ⟨wr.heap.size, 0, none⟩ 1 [48 + UInt8.ofNat (m % 10)] Tryz.underlying60 Tryz.underlying5 Tryz.underlying9 fun j hj => ?_
  have hj0 : j = 0 := by simp at hj; omega
  subst hj0
  rw [show (([48 + UInt8.ofNat (m % 10)] : List UInt8)[0]) = 48 + UInt8.ofNat (m % 10) from rfl, digit_val]
  simp [go_sem]

end Go.Proofs.YtdpbpdikgcepbaaGreatDoor
namespace Go.Proofs.YtdpbpdikgcepbaaGreatDoor
open Go.RowKit Fix

theorem digit_byte (m : Nat) : (48 + UInt8.ofNat m : UInt8) = UInt8.ofNat (48 + m) := by
  apply UInt8.toNat_inj.1
  rw [UInt8.toNat_add]
  simp
theorem digitsL_free (n : Nat) (h : 0 < n) : digitsL n 0 = digitsL n 1 := by
  rw [digitsL_more n 0 (Or.inl h), digitsL_more n 1 (Or.inl h)]
theorem digitsL_one (n : Nat) : digitsL n 1 = Lib.decDigits n := by
  induction n using Nat.strongRecOn with
  | _ n ih =>
    rw [Lib.decDigits, digitsL_more n 1 (Or.inr (by decide)), digit_byte _]
    by_cases h : n < 10
    · rw [dif_pos h, Nat.div_eq_of_lt h, digitsL_zero, Nat.mod_eq_of_lt h]; rfl
    · rw [dif_neg h, ← ih (n / 10) (by omega), digitsL_free (n / 10) (by omega)]
theorem dec_more (n : Nat) (h : 10 ≤ n) : Lib.decDigits n = Lib.decDigits (n / 10) ++ [UInt8.ofNat (48 + n % 10)] := by
  rw [Lib.decDigits, dif_neg (by omega)]
theorem dec_padded (r : Nat) (h : r < 10000) : Lib.decDigits (10000 + r) = 49 :: digitsL r 4 := by
  have e0 : digitsL (r / 10 / 10 / 10 / 10) 0 = [] := by rw [show r / 10 / 10 / 10 / 10 = 0 by omega, digitsL_zero]
  rw [digitsL_more r 4 (Or.inr (by decide)), digitsL_more (r / 10) 3 (Or.inr (by decide)), digitsL_more (r / 10 / 10) 2 (Or.inr (by decide)), digitsL_more (r / 10 / 10 / 10) 1 (Or.inr (by decide)), e0]
  rw [dec_more (10000 + r) (by omega), show (10000 + r) / 10 = 1000 + r / 10 by omega, dec_more (1000 + r / 10) (by omega), show (1000 + r / 10) / 10 = 100 + r / 10 / 10 by omega, dec_more (100 + r / 10 / 10) (by omega),
    show (100 + r / 10 / 10) / 10 = 10 + r / 10 / 10 / 10 by omega, dec_more (10 + r / 10 / 10 / 10) (by omega), show (10 + r / 10 / 10 / 10) / 10 = 1 by omega, show Lib.decDigits 1 = [49] by rw [Lib.decDigits]; rfl]
  rw [show (10000 + r) % 10 = r % 10 by omega, show (1000 + r / 10) % 10 = r / 10 % 10 by omega, show (100 + r / 10 / 10) % 10 = r / 10 / 10 % 10 by omega, show (10 + r / 10 / 10 / 10) % 10 = r / 10 / 10 / 10 % 10 by omega]
  rw [digit_byte (r % 10), digit_byte (r / 10 % 10), digit_byte (r / 10 / 10 % 10), digit_byte (r / 10 / 10 / 10 % 10)]
  rfl
theorem digits4_length (r : Nat) (h : r < 10000) : (digitsL r 4).length = 4 := by
  have e0 : digitsL (r / 10 / 10 / 10 / 10) 0 = [] := by rw [show r / 10 / 10 / 10 / 10 = 0 by omega, digitsL_zero]
  rw [digitsL_more r 4 (Or.inr (by decide)), digitsL_more (r / 10) 3 (Or.inr (by decide)), digitsL_more (r / 10 / 10) 2 (Or.inr (by decide)), digitsL_more (r / 10 / 10 / 10) 1 (Or.inr (by decide)), e0]
  rfl

/-- The decimals of r units, without the zeros behind; one digit at least. -/
def fracL (r : Nat) : List UInt8 := if Lib.trimRightB (digitsL r 4) 48 = [] then [48] else Lib.trimRightB (digitsL r 4) 48
/-- The text of n units. -/
def textL (n : Int) : List UInt8 := if n < -1073741824 then [] else if 1073741824 < n then [] else (if n < 0 then [45] else []) ++ Lib.decDigits (n.natAbs / 10000) ++ [46] ++ fracL (n.natAbs % 10000)

/-- The decimals as the reference cuts them: the first k of them, all behind being zeros. -/
theorem frac_take (r k : Nat) (h1 : 1 ≤ k) (hk : k ≤ (digitsL r 4).length) (hz : ∀ (j : Nat) b, k ≤ j → (digitsL r 4)[j]? = some b → b = 48) (hlast : k = 1 ∨ ∀ b, (digitsL r 4)[k - 1]? = some b → b ≠ 48) : (digitsL r 4).take k = fracL r := by
  unfold fracL
  generalize digitsL r 4 = l at *
  by_cases hb : ∀ b, l[k - 1]? = some b → b ≠ 48
  · rw [Lib.trimRightB_take l 48 k hk hz (fun b _ h => hb b h), if_neg]
    intro h0
    have := congrArg List.length h0
    rw [List.length_take, List.length_nil] at this
    omega
  · have hk1 : k = 1 := by rcases hlast with h | h; exact h; exact absurd h hb
    subst hk1
    have h0 : l[0]? = some 48 := by
      rw [List.getElem?_eq_getElem (by omega)] at hb ⊢
      simpa using hb
    have ht : Lib.trimRightB l 48 = l.take 0 := Lib.trimRightB_take l 48 0 (by omega) (fun j b hj hjb => by
      by_cases hj0 : j = 0
      · subst hj0; rw [h0] at hjb; cases hjb; rfl
      · exact hz j b (by omega) hjb) (fun b h => absurd h (by decide))
    rw [ht, List.take_zero, if_pos rfl]
    cases l with
    | nil => simp at h0
    | cons a l => simp at h0; subst h0; rfl
theorem frac_length (r : Nat) (h : r < 10000) : (fracL r).length ≤ 4 := by
  unfold fracL
  split
  · decide
  · have h4 := digits4_length r h
    unfold Lib.trimRightB
    rw [List.length_reverse]
    have := (List.dropWhile_suffix (p := (· == (48 : UInt8))) (l := (digitsL r 4).reverse)).length_le
    rw [List.length_reverse] at this
    omega
end Go.Proofs.YtdpbpdikgcepbaaGreatDoor
namespace Go.Proofs.YtdpbpdikgcepbaaGreatDoor
open Go.RowKit Fix

/-- What stands ahead of the first point, what stands behind it, and whether there is one. -/
def splitP : List UInt8 → List UInt8 × List UInt8 × Bool
  | [] => ([], [], false)
  | c :: l => if c = 46 then ([], l, true) else (c :: (splitP l).1, (splitP l).2.1, (splitP l).2.2)
theorem splitP_cons (c : UInt8) (l : List UInt8) : splitP (c :: l) = if c = 46 then ([], l, true) else (c :: (splitP l).1, (splitP l).2.1, (splitP l).2.2) := rfl
theorem cut_split (l : List UInt8) : Lib.cut l [46] = splitP l := by
  induction l with
  | nil => rfl
  | cons c l ih =>
    unfold Lib.cut at ih ⊢
    rw [Lib.index_one] at ih ⊢
    have hge := Lib.indexByte_ge l 46
    rw [splitP_cons]
    by_cases hc : c = 46
    · subst hc; simp [Lib.indexByte]
    · have hc' : (c == 46) = false := by simpa using hc
      have e : Lib.indexByte (c :: l) 46 = if Lib.indexByte l 46 == -1 then -1 else Lib.indexByte l 46 + 1 := by rw [Lib.indexByte, hc']; rfl
      rw [if_neg hc, e]
      by_cases h0 : Lib.indexByte l 46 = -1
      · rw [h0] at ih ⊢
        rw [← ih]
        simp
      · have h0' : (Lib.indexByte l 46 == -1) = false := by simpa using h0
        have e2 : (if (Lib.indexByte l 46 == -1) = true then (-1 : Int) else Lib.indexByte l 46 + 1) = Lib.indexByte l 46 + 1 := by rw [h0']; rfl
        rw [e2, if_pos (by omega)]
        rw [if_pos (by omega)] at ih
        rw [← ih, show (Lib.indexByte l 46 + 1).toNat = (Lib.indexByte l 46).toNat + 1 by omega]
        simp
theorem split_append (l m : List UInt8) : splitP (l ++ m) = if (splitP l).2.2 = true then ((splitP l).1, (splitP l).2.1 ++ m, true) else (l ++ (splitP m).1, (splitP m).2.1, (splitP m).2.2) := by
  induction l with
  | nil => rfl
  | cons c l ih =>
    rw [List.cons_append, splitP_cons, splitP_cons, ih]
    by_cases hc : c = 46
    · rw [if_pos hc, if_pos hc]; rfl
    · rw [if_neg hc, if_neg hc]
      by_cases hf : (splitP l).2.2 = true
      · simp [hf]
      · simp [hf]
theorem split_free {l : List UInt8} (h : ¬ (splitP l).2.2 = true) : (splitP l).1 = l ∧ (splitP l).2.1 = [] := by
  induction l with
  | nil => exact ⟨rfl, rfl⟩
  | cons c l ih =>
    rw [splitP_cons] at h ⊢
    by_cases hc : c = 46
    · rw [if_pos hc] at h; exact absurd rfl h
    · rw [if_neg hc] at h ⊢
      obtain ⟨h1, h2⟩ := ih h
      exact ⟨by rw [h1], h2⟩

def bodyL (l : List UInt8) : List UInt8 := match l with | [] => [] | c :: t => if c = 45 then t else if c = 43 then t else c :: t
def minusL (l : List UInt8) : Bool := match l with | [] => false | c :: _ => c == 45
def befL (l : List UInt8) : List UInt8 := (splitP (bodyL l)).1
def aftL (l : List UInt8) : List UInt8 := (splitP (bodyL l)).2.1
def goodR (l : List UInt8) : Bool := decide (l.length ≤ 40) && ((befL l).all isDig && ((aftL l).all isDig && !(befL l ++ aftL l).isEmpty))
def zeros4 : List UInt8 := [48, 48, 48, 48]
def headL (l : List UInt8) : List UInt8 := befL l ++ (aftL l ++ zeros4).take 4
def restL (l : List UInt8) : List UInt8 := (aftL l ++ zeros4).drop 4
def upL (l : List UInt8) : Bool := if minusL l then upMinus (restL l) else upPlus (restL l)
def readX (l : List UInt8) : Int := if minusL l then -(if upL l then valL 0 (headL l) + 1 else valL 0 (headL l)) else (if upL l then valL 0 (headL l) + 1 else valL 0 (headL l))
def readBig (l : List UInt8) : Bool := decide (1073741824 < valL 0 (headL l)) || !inRange (readX l)
def readN (l : List UInt8) : Int := if goodR l then (if readBig l then 0 else readX l) else 0
def readE (l : List UInt8) : Int := if goodR l then (if readBig l then 2 else 0) else 3

/-- The value as the reference caps it. -/
def valM (n : Int) : List UInt8 → Int
  | [] => n
  | b :: l => valM (min (10 * n + ((b.toNat : Int) - 48)) 1099511627776) l
theorem valM_snoc (n : Int) (l : List UInt8) (b : UInt8) : valM n (l ++ [b]) = min (10 * valM n l + ((b.toNat : Int) - 48)) 1099511627776 := by
  induction l generalizing n with
  | nil => rfl
  | cons c l ih => exact ih _
theorem valM_eq (n : Int) (l : List UInt8) (hn : 0 ≤ n) (h : l.all isDig = true) : valM (min n 1099511627776) l = min (valL n l) 1099511627776 := by
  induction l generalizing n with
  | nil => rfl
  | cons b l ih =>
    rw [List.all_cons, Bool.and_eq_true] at h
    have hb := isDig_yes h.1
    show valM (min (10 * min n 1099511627776 + ((b.toNat : Int) - 48)) 1099511627776) l = min (valL (10 * n + ((b.toNat : Int) - 48)) l) 1099511627776
    rw [← ih (10 * n + ((b.toNat : Int) - 48)) (by omega) h.2]
    congr 1
    omega

/-- Whether the reference rounds up: the first of the decimals behind, and, below zero, whether there are others. -/
def fiveUp : List UInt8 → Bool
  | [] => false
  | c :: _ => decide (53 ≤ c.toNat)
def someUp : List UInt8 → Bool
  | [] => false
  | c :: l => decide (53 < c.toNat) || l.any fun b => decide (48 < b.toNat)
def moreR (rest : List UInt8) (minus : Bool) : Bool := fiveUp rest && (!minus || someUp rest)

theorem less_nil (l : List UInt8) : Op.bytesLess [] (53 :: l) = true := rfl
theorem less_cons (c : UInt8) (l : List UInt8) : Op.bytesLess (c :: l) [53] = decide (c.toNat < 53) := by
  show (decide (c < 53) || (c == 53 && Op.bytesLess l [])) = _
  have e : Op.bytesLess l [] = false := by cases l <;> rfl
  rw [e, Bool.and_false, Bool.or_false]
  rfl
theorem up_plus_eq (l : List UInt8) : upPlus l = fiveUp l := by
  unfold upPlus
  cases l with
  | nil => rfl
  | cons c l =>
    rw [less_cons]
    show (!decide (c.toNat < 53)) = decide (53 ≤ c.toNat)
    by_cases h : c.toNat < 53
    · rw [decide_eq_true h, decide_eq_false (by omega)]; rfl
    · rw [decide_eq_false h, decide_eq_true (by omega)]; rfl
theorem trim_cons (c : UInt8) (l : List UInt8) : Lib.trimRightB (c :: l) 48 = if Lib.trimRightB l 48 = [] then (if c = 48 then [] else [c]) else c :: Lib.trimRightB l 48 := by
  unfold Lib.trimRightB
  rw [List.reverse_cons, List.dropWhile_append]
  by_cases h : l.reverse.dropWhile (· == 48) = []
  · rw [h]
    by_cases hc : c = 48
    · simp [hc]
    · simp [hc]
  · have h' : (l.reverse.dropWhile (· == 48)).isEmpty = false := by simpa using h
    rw [h']
    simp [h]
theorem trim_nil_iff (l : List UInt8) (h : l.all isDig = true) : Lib.trimRightB l 48 = [] ↔ (l.any fun b => decide (48 < b.toNat)) = false := by
  induction l with
  | nil => exact ⟨fun _ => rfl, fun _ => rfl⟩
  | cons c l ih =>
    rw [List.all_cons, Bool.and_eq_true] at h
    have hc := isDig_yes h.1
    rw [trim_cons, List.any_cons, Bool.or_eq_false_iff, ← ih h.2]
    have hcc : c = 48 ↔ decide (48 < c.toNat) = false := by
      rw [decide_eq_false_iff_not]
      constructor
      · rintro rfl; decide
      · intro hh; exact UInt8.toNat_inj.1 (show c.toNat = 48 by omega)
    by_cases h0 : Lib.trimRightB l 48 = []
    · rw [if_pos h0]
      by_cases h1 : c = 48
      · rw [if_pos h1]; exact ⟨fun _ => ⟨hcc.1 h1, h0⟩, fun _ => rfl⟩
      · rw [if_neg h1]; exact ⟨fun h => by simp at h, fun h => absurd (hcc.2 h.1) h1⟩
    · rw [if_neg h0]
      exact ⟨fun h => by simp at h, fun h => absurd h.2 h0⟩
theorem up_minus_eq (l : List UInt8) (h : l.all isDig = true) : upMinus l = (fiveUp l && someUp l) := by
  unfold upMinus
  cases l with
  | nil => rfl
  | cons c l =>
    rw [List.all_cons, Bool.and_eq_true] at h
    have hc := isDig_yes h.1
    have ht := trim_nil_iff l h.2
    rw [trim_cons]
    by_cases h0 : Lib.trimRightB l 48 = []
    · rw [if_pos h0]
      have ha := ht.1 h0
      by_cases h1 : c = 48
      · subst h1; rfl
      · rw [if_neg h1, less_cons]
        show (!decide (c.toNat < 53) && !(c == 53 && true)) = (decide (53 ≤ c.toNat) && (decide (53 < c.toNat) || _))
        rw [ha, Bool.or_false, Bool.and_true]
        by_cases h2 : c = 53
        · subst h2; rfl
        · have : c.toNat ≠ 53 := fun hh => h2 (UInt8.toNat_inj.1 hh)
          have h2' : (c == 53) = false := by simpa using h2
          rw [h2']
          by_cases h3 : c.toNat < 53
          · simp [h3]; omega
          · simp [h3]; omega
    · rw [if_neg h0, less_cons]
      have ha : (l.any fun b => decide (48 < b.toNat)) = true := by
        by_cases hh : (l.any fun b => decide (48 < b.toNat)) = true
        · exact hh
        · exact absurd (ht.2 (Bool.eq_false_iff.2 hh)) h0
      have hne : (c :: Lib.trimRightB l 48 == [53]) = false := by
        cases hq : Lib.trimRightB l 48 with
        | nil => exact absurd hq h0
        | cons d t =>
          show (c == 53 && (d :: t == [])) = false
          rw [Bool.and_eq_false_iff]; right; rfl
      rw [hne]
      show (!decide (c.toNat < 53) && !false) = (decide (53 ≤ c.toNat) && (decide (53 < c.toNat) || _))
      rw [ha]
      by_cases h3 : c.toNat < 53
      · simp [h3]
      · simp [h3]; omega

/-- The zeros that the program puts behind change no rounding. -/
theorem five_zeros (l : List UInt8) : fiveUp ((l ++ zeros4).drop 4) = fiveUp (l.drop 4) := by
  rcases l with _ | ⟨a, _ | ⟨b, _ | ⟨c, _ | ⟨d, _ | ⟨e, l⟩⟩⟩⟩⟩ <;> rfl
theorem some_zeros (l : List UInt8) : someUp ((l ++ zeros4).drop 4) = someUp (l.drop 4) := by
  rcases l with _ | ⟨a, _ | ⟨b, _ | ⟨c, _ | ⟨d, _ | ⟨e, l⟩⟩⟩⟩⟩
  · rfl
  · rfl
  · rfl
  · rfl
  · rfl
  · show (decide (53 < e.toNat) || (l ++ zeros4).any fun b => decide (48 < b.toNat)) = (decide (53 < e.toNat) || l.any fun b => decide (48 < b.toNat))
    rw [List.any_append, show (zeros4.any fun b => decide (48 < b.toNat)) = false from rfl, Bool.or_false]
theorem zeros_dig : zeros4.all isDig = true := by decide
theorem all_drop {l : List UInt8} (k : Nat) (h : l.all isDig = true) : (l.drop k).all isDig = true := by
  rw [List.all_eq_true] at h ⊢
  exact fun x hx => h x (List.mem_of_mem_drop hx)
theorem all_take {l : List UInt8} (k : Nat) (h : l.all isDig = true) : (l.take k).all isDig = true := by
  rw [List.all_eq_true] at h ⊢
  exact fun x hx => h x (List.mem_of_mem_take hx)
theorem goodR_parts {l : List UInt8} (h : goodR l = true) : l.length ≤ 40 ∧ (befL l).all isDig = true ∧ (aftL l).all isDig = true ∧ (befL l ++ aftL l).isEmpty = false := by
  unfold goodR at h
  simpa only [Bool.and_eq_true, decide_eq_true_eq, Bool.not_eq_true'] using h
theorem rest_dig {l : List UInt8} (h : goodR l = true) : (restL l).all isDig = true := all_drop 4 (by rw [List.all_append, (goodR_parts h).2.2.1, zeros_dig]; rfl)
theorem head_dig {l : List UInt8} (h : goodR l = true) : (headL l).all isDig = true := by
  unfold headL
  rw [List.all_append, (goodR_parts h).2.1, all_take 4 (by rw [List.all_append, (goodR_parts h).2.2.1, zeros_dig]; rfl)]; rfl
theorem up_eq {l : List UInt8} (h : goodR l = true) : upL l = moreR ((aftL l).drop 4) (minusL l) := by
  unfold upL moreR
  have hr := rest_dig h
  unfold restL at hr ⊢
  by_cases hm : minusL l = true
  · rw [if_pos hm, hm, up_minus_eq _ hr, five_zeros, some_zeros]; rfl
  · rw [if_neg hm, Bool.eq_false_iff.2 hm, up_plus_eq, five_zeros]; simp
/-- The reference's number. -/
def refX (l : List UInt8) : Int := if minusL l then -(if upL l then valM 0 (headL l) + 1 else valM 0 (headL l)) else (if upL l then valM 0 (headL l) + 1 else valM 0 (headL l))
theorem ref_range {l : List UInt8} (h : goodR l = true) : inRange (refX l) = !readBig l ∧ (readBig l = false → refX l = readX l) := by
  have hv := valM_eq 0 (headL l) (by decide) (head_dig h)
  rw [show min (0 : Int) 1099511627776 = 0 from rfl] at hv
  have h0 := valL_ge 0 (headL l) (by decide) (head_dig h)
  by_cases hb : 1073741824 < valL 0 (headL l)
  · have e : readBig l = true := by unfold readBig; rw [decide_eq_true hb]; rfl
    rw [e]
    refine ⟨?_, fun hh => by cases hh⟩
    unfold refX inRange
    rw [hv]
    generalize valL 0 (headL l) = v at *
    cases minusL l <;> cases upL l <;> simp <;> omega
  · have e : valM 0 (headL l) = valL 0 (headL l) := by omega
    have e2 : refX l = readX l := by unfold refX readX; rw [e]
    refine ⟨?_, fun _ => e2⟩
    rw [e2]
    unfold readBig
    rw [decide_eq_false hb, Bool.false_or, Bool.not_not]
end Go.Proofs.YtdpbpdikgcepbaaGreatDoor
