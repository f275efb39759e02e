/-
  Lemmas and walks, joined: FldA, FldB, FldM, FldN.
-/
import Derived.RangeFuncBox
import Derived.RangeFuncNested
import Derived.RangeFuncBound
import Derived.RangeFuncCalls
import Derived.RangeFuncLeaves
import Derived.RangeFuncWrites
import Derived.Shelf.RegionOpen
import Derived.OwnWalkIn
import Derived.TacticsInMore
import Derived.LoopNIn
import Derived.LoopIn
import Derived.Sort.QuietIn
import Derived.IntWalk
import Derived.Lib.Hide
import Derived.Test.YtbagmjedkcipgaaDoorMgJBase0
import Derived.Maps.Own
import Derived.Maps.StringElems
namespace Go.Proofs.YtbagmjedkcipgaaDoor
open Go.RowKit Go.Shelf
attribute [local go_sem] Oper.semAt_some

/-- The blocks of S lie as they lay. -/
def KeptB (S : Nat → Prop) (A B : World) : Prop := ∀ b, S b → B.heap[b]? = A.heap[b]?
theorem KeptB.refl (S : Nat → Prop) (A : World) : KeptB S A A := fun _ _ => rfl
theorem KeptB.trans {S : Nat → Prop} {A B C : World} (h : KeptB S A B) (k : KeptB S B C) : KeptB S A C := fun b hb => (k b hb).trans (h b hb)
theorem KeptB.cell {S : Nat → Prop} {A B : World} (h : KeptB S A B) {b : Nat} (hb : S b) (i : Nat) : B.cell? ⟨b, i, none⟩ = A.cell? ⟨b, i, none⟩ := by simp [World.cell?, h b hb]

/-- Is the byte a white space? -/
def spN (i : Nat) : Bool := (decide (9 ≤ i) && decide (i ≤ 13)) || decide (i = 32)
/-- What the library's table of white spaces holds. -/
def SpaceAt (W : World) : Prop := ∀ i, i < 256 → W.cell? ⟨0, i, none⟩ = some (.int .u8 (if spN i then 1 else 0))
/-- The fields told before byte i, and where the one at hand begins. -/
def fld (l : List UInt8) : Nat → List (Nat × Nat) × Option Nat
  | 0 => ([], none)
  | i + 1 => if spN (l.getD i 0).toNat then (match (fld l i).2 with | none => ((fld l i).1, none) | some a => ((fld l i).1 ++ [(a, i)], none)) else ((fld l i).1, some ((fld l i).2.getD i))
def flds (l : List UInt8) : List (Nat × Nat) := match (fld l l.length).2 with | none => (fld l l.length).1 | some a => (fld l l.length).1 ++ [(a, l.length)]
theorem fld_start (l : List UInt8) : ∀ i a, (fld l i).2 = some a → a < i := by
  intro i
  induction i with
  | zero => intro a h; cases h
  | succ i ih =>
    intro a h
    unfold fld at h
    by_cases hs : spN (l.getD i 0).toNat = true
    · rw [if_pos hs] at h
      cases hc : (fld l i).2 with
      | none => rw [hc] at h; cases h
      | some b => rw [hc] at h; cases h
    · rw [if_neg hs] at h
      have h' : some ((fld l i).2.getD i) = some a := h
      injection h' with h'
      cases hc : (fld l i).2 with
      | none => rw [hc] at h'; simp at h'; omega
      | some b => rw [hc] at h'; have := ih b hc; simp at h'; omega
theorem fld_len (l : List UInt8) : ∀ i, (fld l i).1.length ≤ i := by
  intro i
  induction i with
  | zero => exact Nat.le_refl _
  | succ i ih =>
    unfold fld
    by_cases hs : spN (l.getD i 0).toNat = true
    · rw [if_pos hs]
      cases hc : (fld l i).2 with
      | none => show (fld l i).1.length ≤ i + 1; omega
      | some b => show ((fld l i).1 ++ [(b, i)]).length ≤ i + 1; rw [List.length_append]; simp; omega
    · rw [if_neg hs]
      show (fld l i).1.length ≤ i + 1
      omega
theorem fld_sub (l : List UInt8) : ∀ d i, i + d = l.length → ∀ x ∈ (fld l i).1, x ∈ flds l := by
  intro d
  induction d with
  | zero =>
    intro i h x hx
    have e : i = l.length := by omega
    subst e
    unfold flds
    cases hc : (fld l l.length).2 with
    | none => exact hx
    | some a => exact List.mem_append_left _ hx
  | succ d ih =>
    intro i h x hx
    refine ih (i + 1) (by omega) x ?_
    unfold fld
    by_cases hs : spN (l.getD i 0).toNat = true
    · rw [if_pos hs]
      cases hc : (fld l i).2 with
      | none => exact hx
      | some b => exact List.mem_append_left _ hx
    · rw [if_neg hs]
      exact hx
def encF (s : ByteArray) (x : Nat × Nat) : Array Value := #[.string (s.extract x.1 x.2)]
def stV (o : Option Nat) : Int := match o with | none => -1 | some a => (a : Int)

set_option maxRecDepth 100000 in
set_option maxHeartbeats 4000000 in
theorem fields1_in (n : Nat) (l B1 : Nat) (K : Nat → Prop) (s : ByteArray) (hs : s.size ≤ 1000000) (hasc : ∀ j (h : j < s.size), s[j].toNat < 128) (J Jx : List (Nat × Nat) → World → Prop)
    (hY : ∀ pre x W, J pre W → pre.length < s.size + 1 → YieldAt Fence.wide (n - 1) Tryd.prog l (encF s x) W fun e W' =>
      (e = .returned (.bool true) ∧ J (pre ++ [x]) W' ∧ KeptB K W W') ∨ (e = .returned (.bool false) ∧ Jx (pre ++ [x]) W'))
    (W : World) (h1 : K B1) (hg : K 0) (hc1 : W.cell? ⟨B1, 0, none⟩ = some (.string s)) (hsp : SpaceAt W) (h0 : J [] W) :
    CallsIn Fence.wide n Tryd.prog 80 #[.func (.yield l) #[] #[], .pointer (some ⟨B1, 0, none⟩)] W fun e W' => (∃ v, e = .returned v) ∧
      ((∃ ys : List (Nat × Nat), ys = flds s.data.toList ∧ J ys W') ∨ (∃ pre, (∀ x ∈ pre, x ∈ flds s.data.toList) ∧ Jx pre W')) := by
  have HSub := Lib.hid (fld_sub s.data.toList)
  have HSp := Lib.hid (fun (W' : World) (hb : KeptB K W W') (i : Nat) (hi : i < 256) => (hb.cell hg i).trans (hsp i hi))
  have HC1 := Lib.hid (fun (W' : World) (hb : KeptB K W W') => (hb.cell h1 0).trans hc1)
  have HJ0 := Lib.hid h0
  have HY := Lib.hid hY
  have HAs := Lib.hid hasc
  have hsl : s.data.toList.length = s.size := by simp
  have HSL := Lib.hid hsl
  have HFd := Lib.hid (show ∀ i, fld s.data.toList (i + 1) = if spN (s.data.toList.getD i 0).toNat then (match (fld s.data.toList i).2 with | none => ((fld s.data.toList i).1, none) | some a => ((fld s.data.toList i).1 ++ [(a, i)], none)) else ((fld s.data.toList i).1, some ((fld s.data.toList i).2.getD i)) from fun i => rfl)
  have HFs := Lib.hid (fld_start s.data.toList)
  have HFl := Lib.hid (fld_len s.data.toList)
  have HGet := Lib.hid (show ∀ j (h : j < s.size), s.data.toList.getD j 0 = s[j] from fun j h => by
    rw [List.getD_eq_getElem?_getD, List.getElem?_eq_getElem (show j < s.data.toList.length by simpa using h)]
    rfl)
  have HEnd := Lib.hid (show flds s.data.toList = match (fld s.data.toList s.size).2 with | none => (fld s.data.toList s.size).1 | some a => (fld s.data.toList s.size).1 ++ [(a, s.size)] by unfold flds; rw [hsl])
  have hszI : (s.size : Int) ≤ 1000000 := by omega
  clear h0 hsp hsl hY hasc hc1
  refine callsIn_of_wp Tryd.func80 rfl trivial ?_ rfl
  simp only [Tryd.ntmps80, List.size_toArray, List.length_cons, List.length_nil, Nat.reduceAdd, Nat.reduceSub, Array.replicate_succ, Array.replicate_zero, List.push_toArray, List.append_toArray, List.nil_append, List.cons_append]
  gi_wp2
  gi_loopw [3, 4] (fun v iv wr => ∃ i : Nat, i ≤ s.size ∧ v = .int .i64 (stV (fld s.data.toList i).2) ∧ iv = .int .i64 (i : Int) ∧ Hid (J (fld s.data.toList i).1 wr) ∧ Hid (KeptB K W wr)) (fun _ iv _ => s.size - (intOf iv).toNat)
  case atStart => exact ⟨0, Nat.zero_le _, rfl, rfl, HJ0, Lib.hid (KeptB.refl _ _)⟩
  case round =>
    obtain ⟨i, hi, rfl, rfl, HJ, HK⟩ := hrel
    have c1 := HC1.out wr HK.out
    by_cases hlt : i < s.size
    · have i1 : (i : Int) < (s.size : Int) := by omega
      have i2 : (0 : Int) ≤ (i : Int) := by omega
      have hb := HAs.out i hlt
      have hF := HFd.out i
      rw [HGet.out i hlt] at hF
      have hst := HFs.out i
      have hln := HFl.out i
      have hsc := HSp.out wr HK.out s[i].toNat (by omega)
      obtain ⟨c, hc⟩ : ∃ c, s[i].toNat = c := ⟨_, rfl⟩
      rw [hc] at hb hF hsc
      have hcI : ¬ (128 : Int) ≤ (c : Int) := by omega
      have hc0 : (0 : Int) ≤ (c : Int) := by omega
      have hc2 : (c : Int) < 256 := by omega
      obtain ⟨d, hd⟩ : ∃ d, (fld s.data.toList i).1 = d := ⟨_, rfl⟩
      obtain ⟨o, ho⟩ : ∃ o, (fld s.data.toList i).2 = o := ⟨_, rfl⟩
      rw [hd] at HJ hF hln
      rw [ho] at hF hst ⊢
      clear hd ho
      cases hsp : spN c with
      | true =>
        rw [hsp] at hF hsc
        cases o with
        | none =>
          have HFF := Lib.hid (show fld s.data.toList (i + 1) = (d, none) from hF)
          clear hF hst hln hsp
          gi_wp2
          exact ⟨⟨i + 1, by omega, by rw [HFF.out], by go_num, by rw [HFF.out]; exact HJ, HK⟩, by simp [intOf]; omega⟩
        | some a =>
          have hai := hst a rfl
          have HFF := Lib.hid (show fld s.data.toList (i + 1) = (d ++ [(a, i)], none) from hF)
          have a1 : (0 : Int) ≤ (a : Int) := by omega
          have a2 : (a : Int) ≤ (i : Int) := by omega
          have a3 : (i : Int) ≤ (s.size : Int) := by omega
          rw [show stV (some a) = (a : Int) from rfl]
          obtain ⟨fn, tmps, assign, body, hy, hR⟩ := HY.out d (a, i) wr HJ.out (by omega)
          dsimp only [encF] at hy
          have HR := Lib.hid hR
          clear hF hst hln hsp hR
          gi_wp2
          refine ⟨fun h => (by cases h), HR.out.mono ?_⟩
          rintro e W3 (⟨rfl, hJ3, hk3⟩ | ⟨rfl, hJx3⟩)
          · have HB3 := Lib.hid (HK.out.trans hk3)
            have c1' := HC1.out W3 HB3.out
            have HJ3 := Lib.hid hJ3
            clear hJ3 hk3 hy c1 hsc
            gi_wp2
            exact ⟨⟨i + 1, by omega, by rw [HFF.out] <;> rfl, by go_num, by rw [HFF.out]; exact HJ3, HB3⟩, by simp [intOf]; omega⟩
          · have HX := Lib.hid hJx3
            clear hJx3 hy
            gi_wp2
            refine bodyPost_ret (results_none (by kernel_rfl) _ _ _) rfl ?_
            exact ⟨⟨_, rfl⟩, .inr ⟨_, fun x hx => HSub.out (s.size - (i + 1)) (i + 1) (by rw [HSL.out]; omega) x (by rw [HFF.out]; exact hx), HX.out⟩⟩
      | false =>
        rw [hsp] at hF hsc
        cases o with
        | none =>
          have HFF := Lib.hid (show fld s.data.toList (i + 1) = (d, some i) from hF)
          clear hF hst hln hsp
          rw [show stV none = (-1 : Int) from rfl]
          gi_wp2
          exact ⟨⟨i + 1, by omega, by rw [HFF.out] <;> rfl, by go_num, by rw [HFF.out]; exact HJ, HK⟩, by simp [intOf]; omega⟩
        | some a =>
          have HFF := Lib.hid (show fld s.data.toList (i + 1) = (d, some a) from hF)
          have a1 : ¬ (a : Int) < 0 := by omega
          have a0 : (0 : Int) ≤ (a : Int) := by omega
          clear hF hst hln hsp
          rw [show stV (some a) = (a : Int) from rfl]
          gi_wp2
          exact ⟨⟨i + 1, by omega, by rw [HFF.out] <;> rfl, by go_num, by rw [HFF.out]; exact HJ, HK⟩, by simp [intOf]; omega⟩
    · obtain rfl : i = s.size := by omega
      have HE := HEnd.out
      have hst := HFs.out s.size
      have hln := HFl.out s.size
      obtain ⟨d, hd⟩ : ∃ d, (fld s.data.toList s.size).1 = d := ⟨_, rfl⟩
      obtain ⟨o, ho⟩ : ∃ o, (fld s.data.toList s.size).2 = o := ⟨_, rfl⟩
      rw [hd] at HJ HE hln
      rw [ho] at HE hst ⊢
      clear hd ho
      cases o with
      | none =>
        have HEE := Lib.hid (show flds s.data.toList = d from HE)
        clear HE hst hln
        rw [show stV none = (-1 : Int) from rfl]
        gi_wp2
        go_end0
        exact ⟨⟨_, rfl⟩, .inl ⟨_, rfl, by rw [HEE.out]; exact HJ.out⟩⟩
      | some a =>
        have hai := hst a rfl
        have HEE := Lib.hid (show flds s.data.toList = d ++ [(a, s.size)] from HE)
        have a1 : (0 : Int) ≤ (a : Int) := by omega
        have a2 : (a : Int) ≤ (s.size : Int) := by omega
        rw [show stV (some a) = (a : Int) from rfl]
        obtain ⟨fn, tmps, assign, body, hy, hR⟩ := HY.out d (a, s.size) wr HJ.out (by omega)
        dsimp only [encF] at hy
        have HR := Lib.hid hR
        clear HE hst hln hR
        gi_wp2
        refine ⟨fun h => (by cases h), HR.out.mono ?_⟩
        rintro e W3 (⟨rfl, hJ3, hk3⟩ | ⟨rfl, hJx3⟩)
        · have HJ3 := Lib.hid hJ3
          clear hJ3 hk3 hy
          gi_wp2
          go_end0
          exact ⟨⟨_, rfl⟩, .inl ⟨_, rfl, by rw [HEE.out]; exact HJ3.out⟩⟩
        · have HX := Lib.hid hJx3
          clear hJx3 hy
          gi_wp2
          go_end0
          exact ⟨⟨_, rfl⟩, .inr ⟨_, fun x hx => by rw [HEE.out]; exact hx, HX.out⟩⟩

theorem fields_in (n : Nat) (s : ByteArray) (w : World) :
    CallsIn Fence.wide n Tryd.prog 74 #[.string s] w fun e w' => e = .returned (.func (.func 80) #[] #[.pointer (some ⟨w.heap.size, 0, none⟩)]) ∧ w' = w.alloc (.cells #[.string s] 9) := by
  refine callsIn_of_wp Tryd.func74 rfl trivial ?_ rfl
  simp only [Tryd.ntmps74, List.size_toArray, List.length_cons, List.length_nil, Nat.reduceAdd, Nat.reduceSub, Array.replicate_succ, Array.replicate_zero, List.push_toArray, List.append_toArray, List.nil_append, List.cons_append]
  gi_wp2
  go_ret
  exact ⟨rfl, rfl⟩
theorem SpaceAt.below {B : Nat} {w W : World} (h : SpaceAt w) (hb : Below B w W) (hB : 0 < B) : SpaceAt W := fun i hi => (hb.cell (p := ⟨_, i, none⟩) hB).trans (h i hi)
/-- As the range over it wants it. -/
theorem fields_stops (n : Nat) (B1 : Nat) (K : Nat → Prop) (s : ByteArray) (hs : s.size ≤ 1000000) (hasc : ∀ j (h : j < s.size), s[j].toNat < 128) (w : World) (h1 : K B1) (hg : K 0) (b1 : B1 < w.heap.size) (b2 : 0 < w.heap.size)
    (hc1 : w.cell? ⟨B1, 0, none⟩ = some (.string s)) (hsp : SpaceAt w) :
    SeqStopsK Fence.wide n Tryd.prog 80 #[.pointer (some ⟨B1, 0, none⟩)] (encF s) (KeptB K) (fun ys => ys = flds s.data.toList) (fun pre => ∀ x ∈ pre, x ∈ flds s.data.toList) (s.size + 1) w := fun l J Jx W hW _ _ hY h0 =>
  fields1_in n l B1 K s hs hasc J Jx hY W h1 hg ((hW.cell (p := ⟨B1, 0, none⟩) b1).trans hc1) (hsp.below hW b2) h0
end Go.Proofs.YtbagmjedkcipgaaDoor
namespace Go.Proofs.YtbagmjedkcipgaaDoor
open Go.RowKit Go.WideMaps Go.Maps

/-- The letters and the names. -/
def sigs : List (List UInt8 × List UInt8) := [([], [98, 32, 66, 32, 98, 42, 32, 66, 42, 32, 66, 84, 32, 69, 84, 32, 69, 77, 67, 32, 66, 88, 32, 69, 88, 32, 102, 32, 70, 32, 102, 42, 32, 104, 32, 110, 32, 113, 32, 81, 32, 115, 32, 83, 32, 84, 42, 32, 87, 32, 87, 42]), ([110], [103, 32, 71, 32, 105, 32, 106, 32, 74, 32, 77, 32, 119, 32, 84, 99, 32, 84, 76, 32, 84, 114, 32, 84, 115, 32, 84, 119, 32, 84, 122]), ([110, 110], [100, 48, 32, 108, 32, 109, 32, 84, 100, 32, 84, 68]), ([110, 110, 110], [114, 103, 32, 82, 71]), ([110, 110, 110, 110], [107, 32, 75, 32, 114, 101, 32, 118, 32, 121]), ([110, 110, 110, 110, 110, 110], [99, 32, 99, 109, 32, 100, 49, 32, 84, 109]), ([78], [66, 77, 67, 32, 99, 115, 32, 67, 83, 32, 68, 111, 32, 103, 115, 32, 77, 80, 32, 114, 105, 32, 115, 104]), ([78, 110], [84, 102]), ([78, 42], [66, 68, 67, 32, 68, 80]), ([115], [84, 106, 32, 39]), ([110, 110, 115], [34]), ([97], [84, 74]), ([97, 110], [100]), ([100], [66, 73])]
def sigD (H : Type) : DataW H := sigs.foldl (fun D p => D.put (.string p.1) (.lit (.string p.2))) (.map [])
theorem sigLaw : Keyed Tryd.prog 9 := string_keyed Tryd.underlying9
theorem wpList_insert_own {H : Type} {P : Program} (w : World) {ops : Array Oper} {rest : List Oper} {o : Oper} {a : Act} {Q : Exit → Act → World → Prop}
    (hg : o.guard = none) (m x v : Operand) (t : TypeId) (hop : o.op = Op.insert t m x v)
    (k e : TypeId) (K : Keyed P k) (ht : P.underlying t = some (.map k e)) (R : Value → Option (DataW H × List MemPlace)) (b n : Nat) (D : DataW H)
    (hm : a.eval m = .map (some b)) (hown : w.ownsMap P k R b n D) (hn : n < maxLen) (key val : Value) (kl : Lit) (hx : a.eval x = key) (hv : a.eval v = val) (hkey : keyOf P k key = some kl)
    (d : DataW H) (ps : List MemPlace) (hval : R val = some (d, ps))
    (hK : ∀ w', w'.ownsMap P k R b (n + 1) (D.put kl d) → w.grownBy w' (some b) → wpList P ops Q rest (a.put o.dst undef) w') :
    wpList P ops Q (o :: rest) a w := by
  refine wpList_plain hg fun K' hK' => ?_
  obtain ⟨w', hrun, r1, r2⟩ := hown.update K ht hn hkey hval
  unfold Oper.wp
  simp [execOp, hop, hm, hx, hv, hrun, Result.andThen]
  exact hK' _ _ (hK w' r1 r2)

set_option maxRecDepth 100000 in
set_option maxHeartbeats 4000000 in
theorem signatures_any {H : Type} (w : World) :
    Calls Tryd.prog 73 #[] w fun e w' => e = .returned (.map (some w.heap.size)) ∧ w'.ownsMap Tryd.prog 9 (plainElem (H := H) Tryd.prog 9) w.heap.size 14 (sigD H) ∧ Below w.heap.size w w' := by
  have hmm := @run_makeMap Tryd.prog
  obtain ⟨N, hN⟩ : ∃ N, w.heap.size = N := ⟨_, rfl⟩
  obtain ⟨w0, hw0⟩ : ∃ w0, w.alloc (.map #[] 0) = w0 := ⟨_, rfl⟩
  have o0 : w0.ownsMap Tryd.prog 9 (plainElem (H := H) Tryd.prog 9) N 0 (.map []) := by rw [← hw0, ← hN]; exact World.ownsMap_made _ _ _ _
  have hB0 : Below N w w0 := by rw [← hw0, ← hN]; exact (Below.refl _ w).alloc (Nat.le_refl _) _
  rw [hN]
  go_enter Tryd.func73, Tryd.ntmps73
  go_wp2_with (first | (refine wpList_insert_own _ rfl _ _ _ 90 rfl 9 9 sigLaw Tryd.underlying90 (plainElem (H := H) Tryd.prog 9) N _ _ rfl (by first | assumption | (simp only [hN, hw0]; assumption)) (by unfold maxLen; omega) _ _ _ rfl rfl (keyOf_string_mk Tryd.underlying9 (by unfold maxLen; decide)) _ [] (plainElem_string Tryd.underlying9 (by unfold maxLen; decide)) ?_; intro wq hownq hgrowq) | go_in)
  rename_i w1 o1 g1 w2 o2 g2 w3 o3 g3 w4 o4 g4 w5 o5 g5 w6 o6 g6 w7 o7 g7 w8 o8 g8 w9 o9 g9 w10 o10 g10 w11 o11 g11 w12 o12 g12 w13 o13 g13
  have hg := (((((((((((((g1).trans g2).trans g3).trans g4).trans g5).trans g6).trans g7).trans g8).trans g9).trans g10).trans g11).trans g12).trans g13).trans hgrowq
  clear o1 g1 o2 g2 o3 g3 o4 g4 o5 g5 o6 g6 o7 g7 o8 g8 o9 g9 o10 g10 o11 g11 o12 g12 o13 g13
  go_ret
  exact ⟨rfl, hownq, hB0.grown hg (by rw [← hw0, World.size_alloc, hN]; omega) (fun r hr => by injection hr with hr; omega)⟩
end Go.Proofs.YtbagmjedkcipgaaDoor
namespace Go.Proofs.YtbagmjedkcipgaaDoor

/-- The names of a string of names. -/
def wordsL (l : List UInt8) : List (List UInt8) := (flds l).map fun x => (l.drop x.1).take (x.2 - x.1)
/-- The letters of the operands that an operator requires; a question mark if there is no such operator. -/
def takesL (name : List UInt8) : List UInt8 := match sigs.find? (fun p => (wordsL p.2).contains name) with | some p => p.1 | none => [63]
theorem ext_list (s : ByteArray) (a b : Nat) : (s.extract a b).data.toList = (s.data.toList.drop a).take (b - a) := by
  rw [ByteArray.data_extract, Array.toList_extract]
theorem word_in {s name : ByteArray} {x : Nat × Nat} (hx : x ∈ flds s.data.toList) (h : s.extract x.1 x.2 = name) : name.data.toList ∈ wordsL s.data.toList := by
  unfold wordsL
  exact List.mem_map.2 ⟨x, hx, by rw [← ext_list, h]⟩
theorem word_out {s name : ByteArray} (h : ∀ x ∈ flds s.data.toList, s.extract x.1 x.2 ≠ name) : name.data.toList ∉ wordsL s.data.toList := fun hm => by
  unfold wordsL at hm
  obtain ⟨x, hx, e⟩ := List.mem_map.1 hm
  rw [← ext_list] at e
  refine h x hx ?_
  have e2 : (s.extract x.1 x.2).data = name.data := Array.toList_inj.1 e
  cases hh : s.extract x.1 x.2
  cases name
  rw [hh] at e2
  simp at e2
  rw [e2]
theorem sigs_ascii : (sigs.all fun p => p.2.all fun b => decide (b.toNat < 128)) = true := by decide +kernel
theorem sigs_short : (sigs.all fun p => decide (p.2.length ≤ 1000)) = true := by decide +kernel
/-- No name stands in two entries. -/
theorem sigs_apart : (sigs.all fun p => (wordsL p.2).all fun x => sigs.all fun q => !(wordsL q.2).contains x || decide (q.1 = p.1)) = true := by decide +kernel
theorem takes_hit {p : List UInt8 × List UInt8} (hp : p ∈ sigs) {name : List UInt8} (hn : name ∈ wordsL p.2) : takesL name = p.1 := by
  unfold takesL
  cases h : sigs.find? (fun p => (wordsL p.2).contains name) with
  | none =>
    have := List.find?_eq_none.1 h p hp
    simp [hn] at this
  | some q =>
    have hq := List.mem_of_find?_eq_some h
    have hc := List.find?_some h
    have h1 := List.all_eq_true.1 (List.all_eq_true.1 (List.all_eq_true.1 sigs_apart p hp) name hn) q hq
    simp only [Bool.or_eq_true, Bool.not_eq_true', decide_eq_true_eq] at h1
    rcases h1 with h1 | h1
    · have hc' : (wordsL q.2).contains name = true := hc
      rw [h1] at hc'
      cases hc'
    · exact h1
theorem takes_miss {name : List UInt8} (h : ∀ p ∈ sigs, name ∉ wordsL p.2) : takesL name = [63] := by
  unfold takesL
  rw [List.find?_eq_none.2 (fun p hp => by simp [h p hp])]
theorem takes_q : takesL [113] = [] ∧ takesL [81] = [] ∧ takesL [119] = [110] ∧ takesL [74] = [110] ∧ takesL [108] = [110, 110] ∧ takesL [114, 103] = [110, 110, 110] := by decide +kernel
end Go.Proofs.YtbagmjedkcipgaaDoor
namespace Go.Proofs.YtbagmjedkcipgaaDoor

theorem sig_atp (p : List UInt8 × List UInt8) (hp : p ∈ sigs) (zd : DataW Unit) : (sigD Unit).atKey (.string p.1) zd = .lit (.string p.2) := by
  simp only [sigs, List.mem_cons, List.not_mem_nil, or_false] at hp
  rcases hp with rfl | rfl | rfl | rfl | rfl | rfl | rfl | rfl | rfl | rfl | rfl | rfl | rfl | rfl <;> kernel_rfl
def sigE : List (Lit × DataW Unit) := match sigD Unit with | .map e => e | _ => []
theorem sigE_keys : (sigE.all fun q => match q.1 with | .string a => (sigs.map (·.1)).contains a | _ => false) = true := by decide +kernel
theorem sigD_eq : sigD Unit = .map sigE := by kernel_rfl
/-- What reads as an entry is one of the list's. -/
theorem sig_at {k n : List UInt8} (h : ∀ zd, (sigD Unit).atKey (.string k) zd = .lit (.string n)) : (k, n) ∈ sigs := by
  by_cases hk : ∃ p ∈ sigs, p.1 = k
  · obtain ⟨p, hp, rfl⟩ := hk
    have h1 := (sig_atp p hp .nil).symm.trans (h .nil)
    injection h1 with h1
    injection h1 with h1
    rw [← h1]
    exact hp
  · exfalso
    have hz : (sigD Unit).atKey (.string k) .nil = .nil := by
      rw [sigD_eq]
      have hf : sigE.find? (fun p => p.1.sameKey (.string k)) = none := by
        rw [List.find?_eq_none]
        intro q hq
        have h1 := List.all_eq_true.1 sigE_keys q hq
        obtain ⟨q1, q2⟩ := q
        cases q1 with
        | string a =>
          have h2 : (sigs.map (·.1)).contains a = true := h1
          have h3 : a ∈ sigs.map (·.1) := by simpa using h2
          obtain ⟨p, hp, e⟩ := List.mem_map.1 h3
          have hak : a ≠ k := fun e2 => hk ⟨p, hp, e.trans e2⟩
          show ¬ (a == k) = true
          simpa using hak
        | _ => cases h1
      unfold DataW.atKey
      simp only [hf]
    have := hz.symm.trans (h .nil)
    cases this
/-- One entry a key. -/
theorem sigs_one {p q : List UInt8 × List UInt8} (hp : p ∈ sigs) (hq : q ∈ sigs) (h : p.1 = q.1) : p = q := by
  have h1 : (sigs.all fun p => sigs.all fun q => !decide (p.1 = q.1) || decide (p = q)) = true := by decide +kernel
  have h2 := List.all_eq_true.1 (List.all_eq_true.1 h1 p hp) q hq
  rw [decide_eq_true h] at h2
  simpa using h2
end Go.Proofs.YtbagmjedkcipgaaDoor
