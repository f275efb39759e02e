/-
  The library's FieldsSeq over a string of bytes below 128: the fields, one after another, to a loop that may leave.
-/
import Derived.RangeFuncBox
import Derived.RangeFuncNested
import Derived.RangeFuncBound
import Derived.RangeFuncCalls
import Derived.RangeFuncLeaves
import Derived.RangeFuncWrites
import Derived.Shelf.RegionOpen
import Derived.OwnWalkIn
import Derived.TacticsInMore
import Derived.LoopNIn
import Derived.LoopIn
import Derived.Sort.QuietIn
import Derived.IntWalk
import Derived.Lib.Hide
import Derived.Test.YtmpalhffmgiodaaDoorBlk
namespace Go.Proofs.YtmpalhffmgiodaaDoor
open Go.RowKit Go.Shelf
attribute [local go_sem] Oper.semAt_some

/-- The blocks of S lie as they lay. -/
def KeptB (S : Nat → Prop) (A B : World) : Prop := ∀ b, S b → B.heap[b]? = A.heap[b]?
theorem KeptB.refl (S : Nat → Prop) (A : World) : KeptB S A A := fun _ _ => rfl
theorem KeptB.trans {S : Nat → Prop} {A B C : World} (h : KeptB S A B) (k : KeptB S B C) : KeptB S A C := fun b hb => (k b hb).trans (h b hb)
theorem KeptB.cell {S : Nat → Prop} {A B : World} (h : KeptB S A B) {b : Nat} (hb : S b) (i : Nat) : B.cell? ⟨b, i, none⟩ = A.cell? ⟨b, i, none⟩ := by simp [World.cell?, h b hb]

/-- Is the byte a white space? -/
def spN (i : Nat) : Bool := (decide (9 ≤ i) && decide (i ≤ 13)) || decide (i = 32)
/-- What the library's table of white spaces holds. -/
def SpaceAt (W : World) : Prop := ∀ i, i < 256 → W.cell? ⟨0, i, none⟩ = some (.int .u8 (if spN i then 1 else 0))
/-- The fields told before byte i, and where the one at hand begins. -/
def fld (l : List UInt8) : Nat → List (Nat × Nat) × Option Nat
  | 0 => ([], none)
  | i + 1 => if spN (l.getD i 0).toNat then (match (fld l i).2 with | none => ((fld l i).1, none) | some a => ((fld l i).1 ++ [(a, i)], none)) else ((fld l i).1, some ((fld l i).2.getD i))
def flds (l : List UInt8) : List (Nat × Nat) := match (fld l l.length).2 with | none => (fld l l.length).1 | some a => (fld l l.length).1 ++ [(a, l.length)]
theorem fld_start (l : List UInt8) : ∀ i a, (fld l i).2 = some a → a < i := by
  intro i
  induction i with
  | zero => intro a h; cases h
  | succ i ih =>
    intro a h
    unfold fld at h
    by_cases hs : spN (l.getD i 0).toNat = true
    · rw [if_pos hs] at h
      cases hc : (fld l i).2 with
      | none => rw [hc] at h; cases h
      | some b => rw [hc] at h; cases h
    · rw [if_neg hs] at h
      have h' : some ((fld l i).2.getD i) = some a := h
      injection h' with h'
      cases hc : (fld l i).2 with
      | none => rw [hc] at h'; simp at h'; omega
      | some b => rw [hc] at h'; have := ih b hc; simp at h'; omega
theorem fld_len (l : List UInt8) : ∀ i, (fld l i).1.length ≤ i := by
  intro i
  induction i with
  | zero => exact Nat.le_refl _
  | succ i ih =>
    unfold fld
    by_cases hs : spN (l.getD i 0).toNat = true
    · rw [if_pos hs]
      cases hc : (fld l i).2 with
      | none => show (fld l i).1.length ≤ i + 1; omega
      | some b => show ((fld l i).1 ++ [(b, i)]).length ≤ i + 1; rw [List.length_append]; simp; omega
    · rw [if_neg hs]
      show (fld l i).1.length ≤ i + 1
      omega
theorem fld_sub (l : List UInt8) : ∀ d i, i + d = l.length → ∀ x ∈ (fld l i).1, x ∈ flds l := by
  intro d
  induction d with
  | zero =>
    intro i h x hx
    have e : i = l.length := by omega
    subst e
    unfold flds
    cases hc : (fld l l.length).2 with
    | none => exact hx
    | some a => exact List.mem_append_left _ hx
  | succ d ih =>
    intro i h x hx
    refine ih (i + 1) (by omega) x ?_
    unfold fld
    by_cases hs : spN (l.getD i 0).toNat = true
    · rw [if_pos hs]
      cases hc : (fld l i).2 with
      | none => exact hx
      | some b => exact List.mem_append_left _ hx
    · rw [if_neg hs]
      exact hx
def encF (s : ByteArray) (x : Nat × Nat) : Array Value := #[.string (s.extract x.1 x.2)]
def stV (o : Option Nat) : Int := match o with | none => -1 | some a => (a : Int)

set_option maxRecDepth 100000 in
set_option maxHeartbeats 4000000 in
theorem fields1_in (n : Nat) (l B1 : Nat) (K : Nat → Prop) (s : ByteArray) (hs : s.size ≤ 1000000) (hasc : ∀ j (h : j < s.size), s[j].toNat < 128) (J Jx : List (Nat × Nat) → World → Prop)
    (hY : ∀ pre x W, J pre W → pre.length < s.size + 1 → YieldAt Fence.wide (n - 1) Tryd.prog l (encF s x) W fun e W' =>
      (e = .returned (.bool true) ∧ J (pre ++ [x]) W' ∧ KeptB K W W') ∨ (e = .returned (.bool false) ∧ Jx (pre ++ [x]) W'))
    (W : World) (h1 : K B1) (hg : K 0) (hc1 : W.cell? ⟨B1, 0, none⟩ = some (.string s)) (hsp : SpaceAt W) (h0 : J [] W) :
    CallsIn Fence.wide n Tryd.prog 77 #[.func (.yield l) #[] #[], .pointer (some ⟨B1, 0, none⟩)] W fun e W' => (∃ v, e = .returned v) ∧
      ((∃ ys : List (Nat × Nat), ys = flds s.data.toList ∧ J ys W') ∨ (∃ pre, (∀ x ∈ pre, x ∈ flds s.data.toList) ∧ Jx pre W')) := by
  have HSub := Lib.hid (fld_sub s.data.toList)
  have HSp := Lib.hid (fun (W' : World) (hb : KeptB K W W') (i : Nat) (hi : i < 256) => (hb.cell hg i).trans (hsp i hi))
  have HC1 := Lib.hid (fun (W' : World) (hb : KeptB K W W') => (hb.cell h1 0).trans hc1)
  have HJ0 := Lib.hid h0
  have HY := Lib.hid hY
  have HAs := Lib.hid hasc
  have hsl : s.data.toList.length = s.size := by simp
  have HSL := Lib.hid hsl
  have HFd := Lib.hid (show ∀ i, fld s.data.toList (i + 1) = if spN (s.data.toList.getD i 0).toNat then (match (fld s.data.toList i).2 with | none => ((fld s.data.toList i).1, none) | some a => ((fld s.data.toList i).1 ++ [(a, i)], none)) else ((fld s.data.toList i).1, some ((fld s.data.toList i).2.getD i)) from fun i => rfl)
  have HFs := Lib.hid (fld_start s.data.toList)
  have HFl := Lib.hid (fld_len s.data.toList)
  have HGet := Lib.hid (show ∀ j (h : j < s.size), s.data.toList.getD j 0 = s[j] from fun j h => by
    rw [List.getD_eq_getElem?_getD, List.getElem?_eq_getElem (show j < s.data.toList.length by simpa using h)]
    rfl)
  have HEnd := Lib.hid (show flds s.data.toList = match (fld s.data.toList s.size).2 with | none => (fld s.data.toList s.size).1 | some a => (fld s.data.toList s.size).1 ++ [(a, s.size)] by unfold flds; rw [hsl])
  have hszI : (s.size : Int) ≤ 1000000 := by omega
  clear h0 hsp hsl hY hasc hc1
  refine callsIn_of_wp Tryd.func77 rfl trivial ?_ rfl
  simp only [Tryd.ntmps77, List.size_toArray, List.length_cons, List.length_nil, Nat.reduceAdd, Nat.reduceSub, Array.replicate_succ, Array.replicate_zero, List.push_toArray, List.append_toArray, List.nil_append, List.cons_append]
  gi_wp2
  gi_loopw [3, 4] (fun v iv wr => ∃ i : Nat, i ≤ s.size ∧ v = .int .i64 (stV (fld s.data.toList i).2) ∧ iv = .int .i64 (i : Int) ∧ Hid (J (fld s.data.toList i).1 wr) ∧ Hid (KeptB K W wr)) (fun _ iv _ => s.size - (intOf iv).toNat)
  case atStart => exact ⟨0, Nat.zero_le _, rfl, rfl, HJ0, Lib.hid (KeptB.refl _ _)⟩
  case round =>
    obtain ⟨i, hi, rfl, rfl, HJ, HK⟩ := hrel
    have c1 := HC1.out wr HK.out
    by_cases hlt : i < s.size
    · have i1 : (i : Int) < (s.size : Int) := by omega
      have i2 : (0 : Int) ≤ (i : Int) := by omega
      have hb := HAs.out i hlt
      have hF := HFd.out i
      rw [HGet.out i hlt] at hF
      have hst := HFs.out i
      have hln := HFl.out i
      have hsc := HSp.out wr HK.out s[i].toNat (by omega)
      obtain ⟨c, hc⟩ : ∃ c, s[i].toNat = c := ⟨_, rfl⟩
      rw [hc] at hb hF hsc
      have hcI : ¬ (128 : Int) ≤ (c : Int) := by omega
      have hc0 : (0 : Int) ≤ (c : Int) := by omega
      have hc2 : (c : Int) < 256 := by omega
      obtain ⟨d, hd⟩ : ∃ d, (fld s.data.toList i).1 = d := ⟨_, rfl⟩
      obtain ⟨o, ho⟩ : ∃ o, (fld s.data.toList i).2 = o := ⟨_, rfl⟩
      rw [hd] at HJ hF hln
      rw [ho] at hF hst ⊢
      clear hd ho
      cases hsp : spN c with
      | true =>
        rw [hsp] at hF hsc
        cases o with
        | none =>
          have HFF := Lib.hid (show fld s.data.toList (i + 1) = (d, none) from hF)
          clear hF hst hln hsp
          gi_wp2
          exact ⟨⟨i + 1, by omega, by rw [HFF.out], by go_num, by rw [HFF.out]; exact HJ, HK⟩, by simp [intOf]; omega⟩
        | some a =>
          have hai := hst a rfl
          have HFF := Lib.hid (show fld s.data.toList (i + 1) = (d ++ [(a, i)], none) from hF)
          have a1 : (0 : Int) ≤ (a : Int) := by omega
          have a2 : (a : Int) ≤ (i : Int) := by omega
          have a3 : (i : Int) ≤ (s.size : Int) := by omega
          rw [show stV (some a) = (a : Int) from rfl]
          obtain ⟨fn, tmps, assign, body, hy, hR⟩ := HY.out d (a, i) wr HJ.out (by omega)
          dsimp only [encF] at hy
          have HR := Lib.hid hR
          clear hF hst hln hsp hR
          gi_wp2
          refine ⟨fun h => (by cases h), HR.out.mono ?_⟩
          rintro e W3 (⟨rfl, hJ3, hk3⟩ | ⟨rfl, hJx3⟩)
          · have HB3 := Lib.hid (HK.out.trans hk3)
            have c1' := HC1.out W3 HB3.out
            have HJ3 := Lib.hid hJ3
            clear hJ3 hk3 hy c1 hsc
            gi_wp2
            exact ⟨⟨i + 1, by omega, by rw [HFF.out] <;> rfl, by go_num, by rw [HFF.out]; exact HJ3, HB3⟩, by simp [intOf]; omega⟩
          · have HX := Lib.hid hJx3
            clear hJx3 hy
            gi_wp2
            refine bodyPost_ret (results_none (by kernel_rfl) _ _ _) rfl ?_
            exact ⟨⟨_, rfl⟩, .inr ⟨_, fun x hx => HSub.out (s.size - (i + 1)) (i + 1) (by rw [HSL.out]; omega) x (by rw [HFF.out]; exact hx), HX.out⟩⟩
      | false =>
        rw [hsp] at hF hsc
        cases o with
        | none =>
          have HFF := Lib.hid (show fld s.data.toList (i + 1) = (d, some i) from hF)
          clear hF hst hln hsp
          rw [show stV none = (-1 : Int) from rfl]
          gi_wp2
          exact ⟨⟨i + 1, by omega, by rw [HFF.out] <;> rfl, by go_num, by rw [HFF.out]; exact HJ, HK⟩, by simp [intOf]; omega⟩
        | some a =>
          have HFF := Lib.hid (show fld s.data.toList (i + 1) = (d, some a) from hF)
          have a1 : ¬ (a : Int) < 0 := by omega
          have a0 : (0 : Int) ≤ (a : Int) := by omega
          clear hF hst hln hsp
          rw [show stV (some a) = (a : Int) from rfl]
          gi_wp2
          exact ⟨⟨i + 1, by omega, by rw [HFF.out] <;> rfl, by go_num, by rw [HFF.out]; exact HJ, HK⟩, by simp [intOf]; omega⟩
    · obtain rfl : i = s.size := by omega
      have HE := HEnd.out
      have hst := HFs.out s.size
      have hln := HFl.out s.size
      obtain ⟨d, hd⟩ : ∃ d, (fld s.data.toList s.size).1 = d := ⟨_, rfl⟩
      obtain ⟨o, ho⟩ : ∃ o, (fld s.data.toList s.size).2 = o := ⟨_, rfl⟩
      rw [hd] at HJ HE hln
      rw [ho] at HE hst ⊢
      clear hd ho
      cases o with
      | none =>
        have HEE := Lib.hid (show flds s.data.toList = d from HE)
        clear HE hst hln
        rw [show stV none = (-1 : Int) from rfl]
        gi_wp2
        go_end0
        exact ⟨⟨_, rfl⟩, .inl ⟨_, rfl, by rw [HEE.out]; exact HJ.out⟩⟩
      | some a =>
        have hai := hst a rfl
        have HEE := Lib.hid (show flds s.data.toList = d ++ [(a, s.size)] from HE)
        have a1 : (0 : Int) ≤ (a : Int) := by omega
        have a2 : (a : Int) ≤ (s.size : Int) := by omega
        rw [show stV (some a) = (a : Int) from rfl]
        obtain ⟨fn, tmps, assign, body, hy, hR⟩ := HY.out d (a, s.size) wr HJ.out (by omega)
        dsimp only [encF] at hy
        have HR := Lib.hid hR
        clear HE hst hln hR
        gi_wp2
        refine ⟨fun h => (by cases h), HR.out.mono ?_⟩
        rintro e W3 (⟨rfl, hJ3, hk3⟩ | ⟨rfl, hJx3⟩)
        · have HJ3 := Lib.hid hJ3
          clear hJ3 hk3 hy
          gi_wp2
          go_end0
          exact ⟨⟨_, rfl⟩, .inl ⟨_, rfl, by rw [HEE.out]; exact HJ3.out⟩⟩
        · have HX := Lib.hid hJx3
          clear hJx3 hy
          gi_wp2
          go_end0
          exact ⟨⟨_, rfl⟩, .inr ⟨_, fun x hx => by rw [HEE.out]; exact hx, HX.out⟩⟩

theorem fields_in (n : Nat) (s : ByteArray) (w : World) :
    CallsIn Fence.wide n Tryd.prog 71 #[.string s] w fun e w' => e = .returned (.func (.func 77) #[] #[.pointer (some ⟨w.heap.size, 0, none⟩)]) ∧ w' = w.alloc (.cells #[.string s] 9) := by
  refine callsIn_of_wp Tryd.func71 rfl trivial ?_ rfl
  simp only [Tryd.ntmps71, List.size_toArray, List.length_cons, List.length_nil, Nat.reduceAdd, Nat.reduceSub, Array.replicate_succ, Array.replicate_zero, List.push_toArray, List.append_toArray, List.nil_append, List.cons_append]
  gi_wp2
  go_ret
  exact ⟨rfl, rfl⟩
theorem SpaceAt.below {B : Nat} {w W : World} (h : SpaceAt w) (hb : Below B w W) (hB : 0 < B) : SpaceAt W := fun i hi => (hb.cell (p := ⟨_, i, none⟩) hB).trans (h i hi)
/-- As the range over it wants it. -/
theorem fields_stops (n : Nat) (B1 : Nat) (K : Nat → Prop) (s : ByteArray) (hs : s.size ≤ 1000000) (hasc : ∀ j (h : j < s.size), s[j].toNat < 128) (w : World) (h1 : K B1) (hg : K 0) (b1 : B1 < w.heap.size) (b2 : 0 < w.heap.size)
    (hc1 : w.cell? ⟨B1, 0, none⟩ = some (.string s)) (hsp : SpaceAt w) :
    SeqStopsK Fence.wide n Tryd.prog 77 #[.pointer (some ⟨B1, 0, none⟩)] (encF s) (KeptB K) (fun ys => ys = flds s.data.toList) (fun pre => ∀ x ∈ pre, x ∈ flds s.data.toList) (s.size + 1) w := fun l J Jx W hW _ _ hY h0 =>
  fields1_in n l B1 K s hs hasc J Jx hY W h1 hg ((hW.cell (p := ⟨B1, 0, none⟩) b1).trans hc1) (hsp.below hW b2) h0
end Go.Proofs.YtmpalhffmgiodaaDoor
