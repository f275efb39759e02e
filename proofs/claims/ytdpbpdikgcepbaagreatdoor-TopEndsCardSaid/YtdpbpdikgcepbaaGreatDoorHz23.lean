/-
  Lemmas and walks, joined: HdIt, HdEn, HdLv, HdRe, HdSa, HdTe.
-/
import Derived.RangeFuncBox
import Derived.RangeFuncNested
import Derived.RangeFuncBound
import Derived.RangeFuncCalls
import Derived.RangeFuncLeaves
import Derived.Shelf.Abstract
import Derived.Shelf.RegionOpen
import Derived.WalkKit
import Derived.OwnWalkIn
import Derived.TacticsInMore
import Derived.LoopNIn
import Derived.LoopIn
import Derived.Maps.AppendAt
import Derived.IntWalk
import Derived.Lib.Hide
import Derived.Test.YtdpbpdikgcepbaaGreatDoorHz22
import Derived.RegionIn
import Derived.Sort.QuietIn
import Derived.Test.YtdpbpdikgcepbaaGreatDoorHz07
import Derived.Test.YtdpbpdikgcepbaaGreatDoorHz17
import Derived.Test.YtdpbpdikgcepbaaGreatDoorHz21
import Derived.Test.YtdpbpdikgcepbaaGreatDoorHz04
import Derived.OwnWalk
import Derived.BigQuiet
namespace Go.Proofs.YtdpbpdikgcepbaaGreatDoor
open Go.RowKit Go.Shelf Oct
attribute [local go_sem] Oper.semAt_some

/-- The places below k at which part occurs in l. -/
def occTo (l part : List UInt8) (k : Nat) : List Nat := (List.range k).filter fun i => Lib.occAt l part i
theorem occTo_miss (l part : List UInt8) : ∀ (j k : Nat), k ≤ j → (∀ i, k ≤ i → i < j → Lib.occAt l part i = false) → occTo l part j = occTo l part k := by
  intro j
  induction j with
  | zero => intro k h _; rw [show k = 0 by omega]
  | succ j ih =>
    intro k h hn
    by_cases e : k = j + 1
    · rw [e]
    · have := ih k (by omega) (fun i h1 h2 => hn i h1 (by omega))
      rw [← this]
      unfold occTo
      rw [List.range_succ, List.filter_append]
      simp [hn j (by omega) (by omega)]
theorem occTo_hit {l part : List UInt8} {k : Nat} (h : Lib.occAt l part k = true) : occTo l part (k + 1) = occTo l part k ++ [k] := by
  unfold occTo
  rw [List.range_succ, List.filter_append]
  simp [h]
theorem occTo_len (l part : List UInt8) (k : Nat) : (occTo l part k).length ≤ k := by
  unfold occTo
  exact Nat.le_trans (List.length_filter_le _ _) (by simp)
theorem fromN_nat (k : Nat) : fromN (k : Int) = k := by unfold fromN; omega
/-- A place at which part may occur. -/
abbrev At5 (n : Nat) := { i : Nat // i < n }
def encI (n : Nat) (x : At5 n) : Array Value := #[.int .i64 (x.1 : Int)]

/-- What Find answers, in the loop's words. -/
theorem find_step (l part : List UInt8) (hp : part ≠ []) (k : Nat) (hk : k ≤ l.length + 1) :
    (findS l part (k : Int) = -1 ∧ occTo l part k = occTo l part l.length) ∨ ∃ i : Nat, findS l part (k : Int) = (i : Int) ∧ k ≤ i ∧ i < l.length ∧ occTo l part (i + 1) = occTo l part k ++ [i] := by
  rcases findS_spec (s := l) hp (k : Int) with ⟨e, hn⟩ | ⟨i, e, h1, h2, h3, h4⟩
  · rw [fromN_nat] at hn
    refine .inl ⟨e, ?_⟩
    by_cases hle : k ≤ l.length
    · exact (occTo_miss l part l.length k hle (fun i h1 _ => hn i h1)).symm
    · exact occTo_miss l part k l.length (by omega) (fun i h1 h2 => by
        exact occAt_past hp h1)
  · rw [fromN_nat] at h1 h4
    exact .inr ⟨i, e, h1, h2, by rw [occTo_hit h3, occTo_miss l part i k h1 h4]⟩

/-- The blocks of S lie as they lay. -/
def KeptB (S : Nat → Prop) (A B : World) : Prop := ∀ b, S b → B.heap[b]? = A.heap[b]?
theorem KeptB.refl (S : Nat → Prop) (A : World) : KeptB S A A := fun _ _ => rfl
theorem KeptB.trans {S : Nat → Prop} {A B C : World} (h : KeptB S A B) (k : KeptB S B C) : KeptB S A C := fun b hb => (k b hb).trans (h b hb)
theorem KeptB.cell {S : Nat → Prop} {A B : World} (h : KeptB S A B) {b : Nat} (hb : S b) (i : Nat) : B.cell? ⟨b, i, none⟩ = A.cell? ⟨b, i, none⟩ := by simp [World.cell?, h b hb]
theorem find_in (n : Nat) (s p : ByteArray) (k : Int) (v : Int) (w : World) (hs : s.size ≤ 4000000000) (hm : MaxLenAt w) (h : findS s.data.toList p.data.toList k = v) :
    CallsIn Fence.wide n Tryz.prog 19 #[.string s, .string p, .int .i64 k] w fun e w' => e = .returned (.int .i64 v) ∧ w = w' := by
  obtain ⟨m, hm⟩ := hm
  subst h
  exact callsIn_wide.2 (find_any s p k w hs m hm)

/-- How far the loop still has to go. -/
def offM (n : Nat) (v : Value) : Nat := match v with | .int _ a => if a < 0 then 0 else n + 1 - a.toNat | _ => 0
theorem offM_neg (n : Nat) : offM n (.int .i64 (-1)) = 0 := rfl
theorem offM_nat (n i : Nat) : offM n (.int .i64 (i : Int)) = n + 1 - i := by
  show (if (i : Int) < 0 then 0 else n + 1 - (i : Int).toNat) = _
  rw [if_neg (by omega), Int.toNat_natCast]

set_option maxRecDepth 100000 in
set_option maxHeartbeats 4000000 in
theorem offs1_in (n : Nat) (hn : 1 ≤ n) (l B1 B2 : Nat) (K : Nat → Prop) (s p : ByteArray) (hp : p.data.toList ≠ []) (hs : s.size ≤ 1000000) (J Jx : List (At5 s.size) → World → Prop)
    (hY : ∀ pre x W, J pre W → pre.length < s.size + 1 → YieldAt Fence.wide (n - 1) Tryz.prog l (encI s.size x) W fun e W' =>
      (e = .returned (.bool true) ∧ J (pre ++ [x]) W' ∧ KeptB K W W') ∨ (e = .returned (.bool false) ∧ Jx (pre ++ [x]) W'))
    (W : World) (h1 : K B1) (h2 : K B2) (hg : K 0) (hc1 : W.cell? ⟨B1, 0, none⟩ = some (.string s)) (hc2 : W.cell? ⟨B2, 0, none⟩ = some (.string p)) (hmx : MaxLenAt W) (h0 : J [] W) :
    CallsIn Fence.wide n Tryz.prog 48 #[.func (.yield l) #[] #[], .pointer (some ⟨B1, 0, none⟩), .pointer (some ⟨B2, 0, none⟩)] W fun e W' => (∃ v, e = .returned v) ∧
      ((∃ ys : List (At5 s.size), ys.map (·.1) = occTo s.data.toList p.data.toList s.size ∧ J ys W') ∨ (∃ pre, True ∧ Jx pre W')) := by
  have keepM : ∀ W' : World, KeptB K W W' → MaxLenAt W' := fun W' hb => by
    obtain ⟨m, hm⟩ := hmx
    exact ⟨m, (hb.cell hg 0).trans hm⟩
  have HK := Lib.hid keepM
  have HJ0 := Lib.hid h0
  have HM := Lib.hid hmx
  have HP := Lib.hid hp
  have HC1 := Lib.hid hc1
  have HC2 := Lib.hid hc2
  have HY := Lib.hid hY
  have hsl : s.data.toList.length = s.size := by simp
  have HSL := Lib.hid hsl
  obtain ⟨a0, ha0⟩ : ∃ a, findS s.data.toList p.data.toList ((0 : Nat) : Int) = a := ⟨_, rfl⟩
  have HA0 := Lib.hid ha0
  have ha0' : findS s.data.toList p.data.toList 0 = a0 := ha0
  have HF0 := Lib.hid (fun W hm => find_in n s p 0 a0 W (by omega) hm ha0')
  clear h0 hmx keepM hp hsl ha0 ha0' hY
  refine callsIn_of_wp Tryz.func48 rfl trivial ?_ rfl
  simp only [Tryz.ntmps48, List.size_toArray, List.length_cons, List.length_nil, Nat.reduceAdd, Nat.reduceSub, Array.replicate_succ, Array.replicate_zero, List.push_toArray, List.append_toArray, List.nil_append, List.cons_append]
  gi_wp2_with (refine ⟨trivial, ?_⟩; gi_at_call 19; refine (find_in _ s p 0 a0 _ (by omega) HM.out HA0.out).mono ?_; rintro e w' ⟨rfl, rfl⟩)
  gi_loopw [4] (fun v wr => ∃ (pre : List (At5 s.size)) (k : Nat) (a : Int), v = .int .i64 a ∧ k ≤ s.size + 1 ∧ Hid (findS s.data.toList p.data.toList (k : Int) = a ∧ pre.map (·.1) = occTo s.data.toList p.data.toList k ∧ pre.length ≤ k) ∧ J pre wr ∧ KeptB K W wr) (fun v _ => offM s.size v)
  case atStart => exact ⟨[], 0, a0, rfl, by omega, Lib.hid ⟨HA0.out, rfl, by simp⟩, HJ0.out, KeptB.refl _ _⟩
  case round =>
    obtain ⟨pre, k, a, rfl, hk, hinv, hJ, hb⟩ := hrel
    obtain ⟨hfa, hpre, hplen⟩ := hinv.out
    have HB := Lib.hid hb
    have hc1' : wr.cell? ⟨B1, 0, none⟩ = some (.string s) := (hb.cell h1 0).trans HC1.out
    have hc2' : wr.cell? ⟨B2, 0, none⟩ = some (.string p) := (hb.cell h2 0).trans HC2.out
    clear hb hinv
    rcases find_step s.data.toList p.data.toList HP.out k (by rw [HSL.out]; exact hk) with ⟨e1, e2⟩ | ⟨i, e1, e2, e3, e4⟩
    · have ea : a = -1 := by rw [← hfa, e1]
      subst ea
      have HE : Hid (pre.map (·.1) = occTo s.data.toList p.data.toList s.size) := Lib.hid (by rw [hpre, e2, HSL.out])
      have HJ := Lib.hid hJ
      clear e1 e2 hfa hpre hJ
      gi_wp2
      refine ⟨fun _ h => (by cases h), ?_⟩
      gi_wp2
      go_end0
      exact ⟨⟨_, rfl⟩, .inl ⟨pre, HE.out, HJ.out⟩⟩
    · have ea : a = (i : Int) := by rw [← hfa, e1]
      subst ea
      rw [HSL.out] at e3
      obtain ⟨fn, tmps, assign, body, hy, hR⟩ := HY.out pre ⟨i, e3⟩ wr hJ (by omega)
      dsimp only [encI] at hy
      obtain ⟨a2, ha2⟩ : ∃ a, findS s.data.toList p.data.toList ((i + 1 : Nat) : Int) = a := ⟨_, rfl⟩
      have HA2 := Lib.hid ha2
      have HN : Hid (pre.map (·.1) ++ [i] = occTo s.data.toList p.data.toList (i + 1)) := Lib.hid (by rw [hpre, e4])
      have i0 : 0 ≤ (i : Int) := by omega
      have HR := Lib.hid hR
      clear e1 e4 hfa hpre hJ ha2 hR
      gi_wp2
      refine HR.out.mono ?_
      rintro e W3 (⟨rfl, hJ3, hk3⟩ | ⟨rfl, hJx3⟩)
      · have HB3 := Lib.hid (HB.out.trans hk3)
        have hd1 : W3.cell? ⟨B1, 0, none⟩ = some (.string s) := (HB3.out.cell h1 0).trans HC1.out
        have hd2 : W3.cell? ⟨B2, 0, none⟩ = some (.string p) := (HB3.out.cell h2 0).trans HC2.out
        have HJ3 := Lib.hid hJ3
        have ha2 : findS s.data.toList p.data.toList ((i : Int) + 1) = a2 := by have := HA2.out; push_cast at this; exact this
        have HA3 := Lib.hid ha2
        clear hc1' hc2' hk3 hJ3 ha2 hy
        gi_wp2_with (refine ⟨trivial, ?_⟩; gi_at_call 19; refine (find_in _ s p ((i : Int) + 1) a2 _ (by omega) (HK.out _ HB3.out) HA3.out).mono ?_; rintro e w' ⟨rfl, rfl⟩)
        go_roundw
        case rel => exact ⟨pre ++ [⟨i, e3⟩], i + 1, a2, rfl, by omega, Lib.hid ⟨HA2.out, by rw [List.map_append]; exact HN.out, by rw [List.length_append]; show pre.length + 1 ≤ _; omega⟩, HJ3.out, HB3.out⟩
        case measure =>
          have hspec := find_step s.data.toList p.data.toList HP.out (i + 1) (by rw [HSL.out]; omega)
          rw [HA2.out] at hspec
          show offM s.size (.int .i64 a2) < offM s.size (.int .i64 (i : Int))
          rcases hspec with ⟨h, _⟩ | ⟨j, h, hj1, _⟩
          · rw [h, offM_neg, offM_nat]; omega
          · rw [h, offM_nat, offM_nat]; omega
      · have HX := Lib.hid hJx3
        clear hJx3
        gi_wp2
        go_end0
        exact ⟨⟨_, rfl⟩, .inr ⟨_, trivial, HX.out⟩⟩

theorem offs_in (n : Nat) (s p : ByteArray) (w : World) :
    CallsIn Fence.wide n Tryz.prog 30 #[.string s, .string p] w fun e w' => e = .returned (.func (.func 48) #[] #[.pointer (some ⟨w.heap.size, 0, none⟩), .pointer (some ⟨w.heap.size + 1, 0, none⟩)]) ∧ w' = (w.alloc (.cells #[.string s] 9)).alloc (.cells #[.string p] 9) := by
  refine callsIn_of_wp Tryz.func30 rfl trivial ?_ rfl
  simp only [Tryz.ntmps30, List.size_toArray, List.length_cons, List.length_nil, Nat.reduceAdd, Nat.reduceSub, Array.replicate_succ, Array.replicate_zero, List.push_toArray, List.append_toArray, List.nil_append, List.cons_append]
  gi_wp2
  go_ret
  exact ⟨rfl, rfl⟩

theorem offs_stops (n : Nat) (hn : 1 ≤ n) (B1 B2 : Nat) (K : Nat → Prop) (s p : ByteArray) (hp : p.data.toList ≠ []) (hs : s.size ≤ 1000000) (w : World) (h1 : K B1) (h2 : K B2) (hg : K 0) (b1 : B1 < w.heap.size) (b2 : B2 < w.heap.size)
    (hc1 : w.cell? ⟨B1, 0, none⟩ = some (.string s)) (hc2 : w.cell? ⟨B2, 0, none⟩ = some (.string p)) (hmx : MaxLenAt w) :
    SeqStopsK Fence.wide n Tryz.prog 48 #[.pointer (some ⟨B1, 0, none⟩), .pointer (some ⟨B2, 0, none⟩)] (encI s.size) (KeptB K) (fun ys => ys.map (·.1) = occTo s.data.toList p.data.toList s.size) (fun _ => True) (s.size + 1) w := fun l J Jx W hW _ _ hY h0 =>
  offs1_in n hn l B1 B2 K s p hp hs J Jx hY W h1 h2 hg ((hW.cell (p := ⟨B1, 0, none⟩) b1).trans hc1) ((hW.cell (p := ⟨B2, 0, none⟩) b2).trans hc2) (hmx.upto hW (Nat.le_refl _)) h0
end Go.Proofs.YtdpbpdikgcepbaaGreatDoor
namespace Go.Proofs.YtdpbpdikgcepbaaGreatDoor
open Go.RowKit Go.Shelf Oct
attribute [local go_sem] Oper.semAt_some
attribute [-go_sem] Builtin.append_

theorem infoInt : (Tryz.prog.info? 3).map (fun i => (i.zero, i.size, i.bytes)) = some (some (.int .i64 0), 1, 8) := by kernel_rfl
/-- Does a place stand at the start, or behind an end of line? -/
def endOk (l : List UInt8) (i : Nat) : Bool := i == 0 || l[i - 1]? == some 10 || l[i - 1]? == some 13
def endsOf (l : List UInt8) (is : List Nat) : List Int := (is.filter (endOk l)).map fun i : Nat => lineS l ((i : Int) + 5)
theorem endsOf_hit {l : List UInt8} {is : List Nat} {i : Nat} (h : endOk l i = true) : endsOf l (is ++ [i]) = endsOf l is ++ [lineS l ((i : Int) + 5)] := by simp [endsOf, h]
theorem endsOf_miss {l : List UInt8} {is : List Nat} {i : Nat} (h : endOk l i = false) : endsOf l (is ++ [i]) = endsOf l is := by simp [endsOf, h]
theorem endsOf_len (l : List UInt8) (is : List Nat) : (endsOf l is).length ≤ is.length := by unfold endsOf; rw [List.length_map]; exact List.length_filter_le _ _
def eof : List UInt8 := [37, 37, 69, 79, 70]
def endsS (l : List UInt8) : List Int := endsOf l (occTo l eof l.length)
def intCells (l : List Int) : List Value := l.map (Value.int .i64)

theorem line_in2 (n l : Nat) (s : ByteArray) (a v : Int) (w : World) (hs : s.size ≤ 4000000000) (h : lineS s.data.toList a = v) :
    CallsIn (Fence.wide.inRound l) n Tryz.prog 31 #[.string s, .int .i64 a] w fun e w' => e = .returned (.int .i64 v) ∧ w = w' := by
  subst h
  exact CallsIn.inRound l (callsIn_wide.2 (line_any s a w hs))

set_option maxRecDepth 100000 in
set_option maxHeartbeats 4000000 in
theorem ends_any (s : ByteArray) (w : World) (hs : s.size ≤ 1000000) (hm : MaxLenAt w) :
    Calls Tryz.prog 17 #[.string s] w fun e w' => ∃ A C, e = .returned (.slice A (endsS s.data.toList).length C) ∧ w'.ownsRow w.heap.size 3 1 (.slice A (endsS s.data.toList).length C) (endsS s.data.toList).length (intCells (endsS s.data.toList)) ∧ Below w.heap.size w w' := by
  obtain ⟨i0, hi, hz0, hz1, hz2⟩ := info_parts infoInt
  obtain ⟨N, hN⟩ : ∃ N, w.heap.size = N := ⟨_, rfl⟩
  have hgm : 0 < N := by obtain ⟨m, h⟩ := hm; rw [← hN]; exact World.block_lt_of_cell? w _ h
  refine (callsIn_wide (n := 6)).1 ?_
  refine callsIn_of_wp_marks Tryz.func17 rfl trivial ?_ rfl
  simp only [Tryz.ntmps17, List.size_toArray, List.length_cons, List.length_nil, Nat.reduceAdd, Nat.reduceSub, Array.replicate_succ, Array.replicate_zero, List.push_toArray, List.append_toArray, List.nil_append, List.cons_append]
  gi_wp2_with (refine ⟨trivial, ?_⟩; gi_at_call 30; refine (offs_in _ s ⟨#[37, 37, 69, 79, 70]⟩ _).mono ?_; rintro e w' ⟨rfl, rfl⟩)
  obtain ⟨V, hV⟩ : ∃ V, (((w.alloc (.cells #[.string s] 9)).alloc (.cells #[.slice none 0 0] 32)).alloc (.cells #[.string s] 9)).alloc (.cells #[.string ⟨#[37, 37, 69, 79, 70]⟩] 9) = V := ⟨_, rfl⟩
  have hVs : V.heap.size = N + 4 := by rw [← hV]; simp [hN]
  have b0 : Boxed V N 9 (.string s) := by rw [← hV, ← hN]; exact (((Boxed.new w _ _).alloc _).alloc _).alloc _
  have b1 : Boxed V (N + 1) 32 (.slice none 0 0) := by
    rw [← hV]
    have := Boxed.new (w.alloc (.cells #[.string s] 9)) 32 (.slice none 0 0)
    rw [World.size_alloc, hN] at this
    exact (this.alloc _).alloc _
  have b2 : Boxed V (N + 2) 9 (.string s) := by
    rw [← hV]
    have := Boxed.new ((w.alloc (.cells #[.string s] 9)).alloc (.cells #[.slice none 0 0] 32)) 9 (.string s)
    rw [World.size_alloc, World.size_alloc, hN] at this
    exact this.alloc _
  have b3 : Boxed V (N + 3) 9 (.string ⟨#[37, 37, 69, 79, 70]⟩) := by
    rw [← hV]
    have := Boxed.new (((w.alloc (.cells #[.string s] 9)).alloc (.cells #[.slice none 0 0] 32)).alloc (.cells #[.string s] 9)) 9 (.string ⟨#[37, 37, 69, 79, 70]⟩)
    rw [World.size_alloc, World.size_alloc, World.size_alloc, hN] at this
    exact this
  have hB0 : Below N w V := by
    rw [← hV, ← hN]
    exact ((((Below.refl _ w).alloc (Nat.le_refl _) _).alloc (by simp) _).alloc (by simp; omega) _).alloc (by simp; omega) _
  have hmV : MaxLenAt V := hm.upto hB0 (by omega)
  rw [hV]
  refine wpIn_rangeFunc_ownG rfl (by omega) (gf := 48) (lb := #[.pointer (some ⟨N + 1 + 1, 0, none⟩), .pointer (some ⟨N + 1 + 1 + 1, 0, none⟩)]) rfl trivial (enters_of Tryz.func48 (by kernel_rfl) rfl)
    (offs_stops _ (by omega) (N + 1 + 1) (N + 1 + 1 + 1) (fun b => b < N ∨ b = N + 2 ∨ b = N + 3) s ⟨#[37, 37, 69, 79, 70]⟩ (by simp) hs V (Or.inr (Or.inl rfl)) (Or.inr (Or.inr rfl)) (Or.inl hgm) (by omega) (by omega) b2.cell b3.cell hmV)
    (fun h k => h.trans k) (fun W l o o' hl _ _ _ b hb => World.putObj_heap_other (by rcases hb with h | h | h <;> omega)) (Below.refl _ _) (fun _ => rfl)
    (fun pre W => ((∃ v, Boxed W (N + 1) 32 v ∧ W.ownsRow N 3 1 v (endsOf s.data.toList (pre.map (·.1))).length (intCells (endsOf s.data.toList (pre.map (·.1)))) ∧ True) ∧ (Boxed W N 9 (.string s) ∧ Boxed W (N + 2) 9 (.string s) ∧ Boxed W (N + 3) 9 (.string ⟨#[37, 37, 69, 79, 70]⟩))) ∧ Below N w W)
    (fun _ _ _ => False)
    (OwnFrom.and (OwnFrom.and (Own.from (holdsRow_own N (N + 1) 32 3 1 (fun pre : List (At5 s.size) => (endsOf s.data.toList (pre.map (·.1))).length) (fun pre : List (At5 s.size) => intCells (endsOf s.data.toList (pre.map (·.1)))) (fun _ _ => True)) _)
      (OwnFrom.and (Own.from (boxed_own _ _ _) _) (OwnFrom.and (Own.from (boxed_own _ _ _) _) (Own.from (boxed_own _ _ _) _)))) (ownFrom_below (by omega) (by omega)))
    (fun _ _ _ _ _ hs _ _ => hs)
    ⟨⟨⟨_, b1, by simp [endsOf, intCells]; exact World.ownsRow_nil V N 3 1, trivial⟩, b0, b2, b3⟩, hB0⟩
    (fun x => { tmps := #[.string s, .pointer (some ⟨N, 0, none⟩), .slice none 0 0, .pointer (some ⟨N + 1, 0, none⟩), .int .i64 (x.1 : Int), .string s, .func (.func 48) #[] #[.pointer (some ⟨N + 1 + 1, 0, none⟩), .pointer (some ⟨N + 1 + 1 + 1, 0, none⟩)], .int .i64 (x.1 : Int), undef, undef, undef, undef, undef, undef, undef, undef, undef, undef, undef, undef, undef, undef, undef, undef, undef, undef, undef, undef, undef, undef, undef, undef], defers := [] }) ?assign ?body ?done ?stop
  case assign =>
    intro l x W K hK
    dsimp only [encI]
    gi_wp2
    exact hK
  case body =>
    rintro l (pre : List (At5 s.size)) ⟨i, hi5⟩ W ⟨⟨⟨v, hv, hrow, _⟩, c0, c2, c3⟩, hB⟩ hlt
    have hcs := c0.cell
    have hlen := endsOf_len s.data.toList (pre.map (fun x : At5 s.size => x.1))
    rw [List.length_map] at hlen
    obtain ⟨L, hL⟩ : ∃ L, lineS s.data.toList ((i : Int) + 5) = L := ⟨_, rfl⟩
    have hline := fun m W => line_in2 m l s ((i : Int) + 5) L W (by omega) hL
    have HLI := Lib.hid hline
    obtain ⟨E, hE⟩ : ∃ E, endsOf s.data.toList (pre.map (fun x : At5 s.size => x.1)) = E := ⟨_, rfl⟩
    rw [hE] at hrow hlen
    -- a place that counts
    have hit : endOk s.data.toList i = true → Hid (endsOf s.data.toList ((pre ++ [(⟨i, hi5⟩ : At5 s.size)]).map (fun x : At5 s.size => x.1)) = E ++ [L]) := fun h => Lib.hid (by
      rw [List.map_append]
      show endsOf s.data.toList (pre.map (fun x : At5 s.size => x.1) ++ [i]) = _
      rw [endsOf_hit h, hE, hL])
    have miss : endOk s.data.toList i = false → Hid (endsOf s.data.toList ((pre ++ [(⟨i, hi5⟩ : At5 s.size)]).map (fun x : At5 s.size => x.1)) = E) := fun h => Lib.hid (by
      rw [List.map_append]
      show endsOf s.data.toList (pre.map (fun x : At5 s.size => x.1) ++ [i]) = _
      rw [endsOf_miss h, hE])
    have hv0 : Boxed W.drew (N + 1) 32 v := hv
    have hrow0 : W.drew.ownsRow N 3 1 v E.length (intCells E) := hrow
    have hBs := hB.size
    obtain ⟨v2, w2, hrun, hown2, hgrow2, _⟩ := run_append_own (P := Tryz.prog) (w := W.drew.alloc (.cells #[.int .i64 L] 3)) N 32 32 3 i0 (.int .i64 0) 1 8 Tryz.underlying32 hi hz0 hz1 hz2 rfl (by decide) v E.length (intCells E) (hrow0.alloc _) ⟨W.heap.size, 0, none⟩ 1 1 [.int .i64 L] rfl (cell_one_new _ _ _) (by simp [Value.oneCell']) (by unfold maxLen; omega) (by omega) (by simp; omega)
    obtain ⟨g2, cap2, rfl⟩ := ownsRow_succ hown2
    replace hrun : Sem.run Tryz.prog (Builtin.append_ #[32, 32] 32 #[v, .slice (some ⟨W.heap.size, 0, none⟩) 1 1]) (W.alloc (.cells #[.int .i64 L] 3)).drew = .ok (.slice (some ⟨g2, 0, none⟩) (E.length + 1) cap2) w2 := hrun
    obtain ⟨hv1, hv2, hr2, hk2, hb2⟩ := hv0.appended (by decide) hrow0 (by show N ≤ W.heap.size; omega) (by omega) hown2 hgrow2
    have hc := hv.cell
    have hca : (W.alloc (.cells #[.int .i64 L] 3)).cell? ⟨N + 1, 0, none⟩ = some v := (hv.alloc _).cell
    have hcb : (W.alloc (.cells #[.int .i64 L] 3)).frozen? ⟨N + 1, 0, none⟩ = false := (hv.alloc _).frozen
    have hc1 := hv1.cell
    have hf1 := hv1.frozen
    have hne2 : some (N + 2) ≠ v.ownBlock := c2.not_row (by decide) hrow
    have hne3 : some (N + 3) ≠ v.ownBlock := c3.not_row (by decide) hrow
    have hne0 : some N ≠ v.ownBlock := c0.not_row (by decide) hrow
    have HROW := Lib.hid hrow
    have HV := Lib.hid hv
    have HV2 := Lib.hid hv2
    have HR2 := Lib.hid hr2
    have HK2 := Lib.hid hk2
    have HBB := Lib.hid hb2
    have HB := Lib.hid hB
    have HG := Lib.hid hgrow2
    have HC := Lib.hid (And.intro c0 (And.intro c2 c3))
    have HNE := Lib.hid (And.intro hne0 (And.intro hne2 hne3))
    have HIT := Lib.hid hit
    have HMISS := Lib.hid miss
    have hmx : Tryz.prog.follows .mixedOrders = true := by kernel_rfl
    clear hrow hv hv2 hr2 hk2 hb2 hB hgrow2 c0 c2 c3 hne0 hne2 hne3 hit miss hv1 hv0 hrow0 hE hL hline hown2
    have hitP : endOk s.data.toList i = true → KeepsFrom V.heap.size W (w2.setCell ⟨N + 1, 0, none⟩ (.slice (some ⟨g2, 0, none⟩) (E.length + 1) cap2)) ∧ KeptB (fun b => b < N ∨ b = N + 2 ∨ b = N + 3) W (w2.setCell ⟨N + 1, 0, none⟩ (.slice (some ⟨g2, 0, none⟩) (E.length + 1) cap2)) ∧
        (((∃ v, Boxed (w2.setCell ⟨N + 1, 0, none⟩ (.slice (some ⟨g2, 0, none⟩) (E.length + 1) cap2)) (N + 1) 32 v ∧ (w2.setCell ⟨N + 1, 0, none⟩ (.slice (some ⟨g2, 0, none⟩) (E.length + 1) cap2)).ownsRow N 3 1 v (endsOf s.data.toList ((pre ++ [(⟨i, hi5⟩ : At5 s.size)]).map (fun x : At5 s.size => x.1))).length (intCells (endsOf s.data.toList ((pre ++ [(⟨i, hi5⟩ : At5 s.size)]).map (fun x : At5 s.size => x.1)))) ∧ True) ∧
          (Boxed (w2.setCell ⟨N + 1, 0, none⟩ (.slice (some ⟨g2, 0, none⟩) (E.length + 1) cap2)) N 9 (.string s) ∧ Boxed (w2.setCell ⟨N + 1, 0, none⟩ (.slice (some ⟨g2, 0, none⟩) (E.length + 1) cap2)) (N + 2) 9 (.string s) ∧ Boxed (w2.setCell ⟨N + 1, 0, none⟩ (.slice (some ⟨g2, 0, none⟩) (E.length + 1) cap2)) (N + 3) 9 (.string ⟨#[37, 37, 69, 79, 70]⟩))) ∧
          Below N w (w2.setCell ⟨N + 1, 0, none⟩ (.slice (some ⟨g2, 0, none⟩) (E.length + 1) cap2))) := by
      intro h
      obtain ⟨c0, c2, c3⟩ := HC.out
      obtain ⟨hne0, hne2, hne3⟩ := HNE.out
      have far : ∀ (b : Nat) (u : Value), Boxed W b 9 u → some b ≠ v.ownBlock → b ≠ N + 1 → Boxed (w2.setCell ⟨N + 1, 0, none⟩ (.slice (some ⟨g2, 0, none⟩) (E.length + 1) cap2)) b 9 u := fun b u hb hne hne1 =>
        ((Boxed.alloc (W := W.drew) hb _).kept HG.out hne).other hne1 _
      have d0 := far _ _ c0 hne0 (by omega)
      have d2 := far _ _ c2 hne2 (by omega)
      have d3 := far _ _ c3 hne3 (by omega)
      refine ⟨((KeepsOthers.drew W).trans HK2.out).from _, ?_, ⟨⟨_, HV2.out, ?_, trivial⟩, d0, d2, d3⟩, HB.out.trans ((Below.drew (Below.refl _ _)).trans HBB.out)⟩
      · rintro b (hb | rfl | rfl)
        · exact HBB.out.block b hb
        · exact (show _ = _ from d2).trans (show _ = _ from c2).symm
        · exact (show _ = _ from d3).trans (show _ = _ from c3).symm
      · rw [(HIT.out h).out, List.length_append]
        have : intCells (E ++ [L]) = intCells E ++ [.int .i64 L] := by simp [intCells]
        rw [this]
        exact HR2.out
    have HITP := Lib.hid hitP
    have missP : endOk s.data.toList i = false → KeepsFrom V.heap.size W W ∧ KeptB (fun b => b < N ∨ b = N + 2 ∨ b = N + 3) W W ∧
        (((∃ v, Boxed W (N + 1) 32 v ∧ W.ownsRow N 3 1 v (endsOf s.data.toList ((pre ++ [(⟨i, hi5⟩ : At5 s.size)]).map (fun x : At5 s.size => x.1))).length (intCells (endsOf s.data.toList ((pre ++ [(⟨i, hi5⟩ : At5 s.size)]).map (fun x : At5 s.size => x.1)))) ∧ True) ∧
          (Boxed W N 9 (.string s) ∧ Boxed W (N + 2) 9 (.string s) ∧ Boxed W (N + 3) 9 (.string ⟨#[37, 37, 69, 79, 70]⟩))) ∧
          Below N w W) := by
      intro h
      refine ⟨KeepsFrom.refl _ _, KeptB.refl _ _, ⟨⟨_, HV.out, ?_, trivial⟩, HC.out⟩, HB.out⟩
      rw [(HMISS.out h).out]
      exact HROW.out
    have HMISSP := Lib.hid missP
    clear hitP missP HC HNE HK2 HBB HG HR2 HROW HIT HMISS HV HV2 HB
    by_cases hz : i = 0
    · subst hz
      have he : endOk s.data.toList 0 = true := rfl
      have HE := Lib.hid he
      clear he
      gi_wp2
      gi_region_with_o (refine ⟨trivial, ?_⟩; gi_at_call 31; refine (HLI.out _ _).mono ?_; rintro e w' ⟨rfl, rfl⟩)
      all_goals gi_wp2
      all_goals exact HITP.out HE.out
    · obtain ⟨k, rfl⟩ : ∃ k, i = k + 1 := ⟨i - 1, by omega⟩
      have hkl : k < s.size := by omega
      have hel : s.data.toList[k + 1 - 1]? = some s[k] := by
        rw [Nat.add_sub_cancel]
        exact (List.getElem?_eq_getElem (by simpa using hkl)).trans rfl
      have hEq : endOk s.data.toList (k + 1) = (s[k] == 10 || s[k] == 13) := by
        unfold endOk
        rw [hel]
        rfl
      have HEQ := Lib.hid hEq
      have e5 : ((k + 1 : Nat) : Int) + 5 = (k : Int) + 1 + 5 := by omega
      have HLJ := HLI
      have i5 : IntKind.i64.wrap ((k : Int) + 1 + 5) = (k : Int) + 1 + 5 := IntWalk.i64_in _ (by omega)
      rw [e5, ← i5] at HLJ
      clear e5 i5
      clear HLI
      clear hEq hel
      by_cases h10 : s[k] = 10
      · have HE : Hid (endOk s.data.toList (k + 1) = true) := Lib.hid (by rw [HEQ.out, h10]; rfl)
        have t10 : ((s[k].toNat : Int) == 10) = true := by rw [h10]; rfl
        clear HEQ
        gi_wp2
        gi_region_with_o (refine ⟨trivial, ?_⟩; gi_at_call 31; refine (HLJ.out _ _).mono ?_; rintro e w' ⟨rfl, rfl⟩)
        all_goals gi_wp2
        all_goals exact HITP.out HE.out
      · have t10 : ((s[k].toNat : Int) == 10) = false := by
          rw [beq_eq_false_iff_ne]
          intro e
          exact h10 (UInt8.toNat_inj.1 (by simpa using (by exact_mod_cast e : s[k].toNat = 10)))
        by_cases h13 : s[k] = 13
        · have HE : Hid (endOk s.data.toList (k + 1) = true) := Lib.hid (by rw [HEQ.out, h13]; rfl)
          have t13 : ((s[k].toNat : Int) == 13) = true := by rw [h13]; rfl
          clear HEQ
          gi_wp2
          gi_region_with_o (refine ⟨trivial, ?_⟩; gi_at_call 31; refine (HLJ.out _ _).mono ?_; rintro e w' ⟨rfl, rfl⟩)
          all_goals gi_wp2
          all_goals exact HITP.out HE.out
        · have HE : Hid (endOk s.data.toList (k + 1) = false) := Lib.hid (by rw [HEQ.out]; simp [h10, h13])
          have t13 : ((s[k].toNat : Int) == 13) = false := by
            rw [beq_eq_false_iff_ne]
            intro e
            exact h13 (UInt8.toNat_inj.1 (by simpa using (by exact_mod_cast e : s[k].toNat = 13)))
          clear HEQ
          gi_wp2
          exact HMISSP.out HE.out
  case done =>
    rintro D ys W hD hys ⟨⟨⟨v, hv, hrow, _⟩, c0, c2, c3⟩, hB⟩ hK
    have hc := hv.cell
    have hys2 : ys.map (·.1) = occTo s.data.toList eof s.data.toList.length := by
      have : s.data.toList.length = s.size := by simp
      rw [this]
      exact hys
    have he : endsOf s.data.toList (ys.map (·.1)) = endsS s.data.toList := by rw [hys2]; rfl
    rw [he] at hrow
    gi_wp2
    refine ⟨by simp, .inl ⟨_, _, rfl, run_takeDeferred hK, ?_⟩⟩
    obtain ⟨A, C, rfl⟩ := own_form hrow
    exact ⟨_, results_tmp rfl _ _ _, A, C, rfl, ownsRow_putObj hrow _ hK rfl, hB.trans (belowK_b (w := V) (by omega) W D _ _ hD hK rfl rfl)⟩
  case stop =>
    rintro D c pre W _ _ h _
    exact h.elim
end Go.Proofs.YtdpbpdikgcepbaaGreatDoor
namespace Go.Proofs.YtdpbpdikgcepbaaGreatDoor
open Go.RowKit Go.Shelf Oct Fix Lex

theorem hlv_t1 (w : World) (ht : Tab10 w) : Calls Tryz.prog 10 #[.int .i64 7] w fun e w' => e = .returned (.tuple #[.string ⟨#[37, 80, 68, 70, 45, 49, 46, 55, 10, 37, 226, 227, 207, 211, 10]⟩, .int .i64 0]) ∧ Below w.heap.size w w' :=
  (htext_any 7 w (by decide) ht).mono fun e w' ⟨h1, h2⟩ => ⟨h1.trans (by kernel_rfl), h2⟩
theorem hlv_t2 (w : World) (ht : Tab10 w) : Calls Tryz.prog 10 #[.int .i64 10] w fun e w' => e = .returned (.tuple #[.string ⟨#[]⟩, .int .i64 2]) ∧ Below w.heap.size w w' :=
  (htext_any 10 w (by decide) ht).mono fun e w' ⟨h1, h2⟩ => ⟨h1.trans (by kernel_rfl), h2⟩
theorem hlv_v1 (w : World) (hm : MaxLenAt w) : Calls Tryz.prog 8 #[.string ⟨#[120, 37, 80, 68, 70, 45, 49, 46, 55, 10, 37, 226, 227, 207, 211, 10]⟩] w fun e w' => e = .returned (.tuple #[.int .i64 1, .int .i64 7, .int .i64 0]) ∧ Below w.heap.size w w' :=
  (vers_any ⟨#[120, 37, 80, 68, 70, 45, 49, 46, 55, 10, 37, 226, 227, 207, 211, 10]⟩ w (by decide) hm).mono fun e w' ⟨h1, m, h2⟩ => ⟨h1.trans (by kernel_rfl), h2 ▸ ⟨rfl, rfl, rfl, Nat.le_refl _, fun _ _ => rfl⟩⟩
theorem hlv_v2 (w : World) (hm : MaxLenAt w) : Calls Tryz.prog 8 #[.string ⟨#[37, 80, 68, 70, 45, 50, 46, 48]⟩] w fun e w' => e = .returned (.tuple #[.int .i64 0, .int .i64 0, .int .i64 17]) ∧ Below w.heap.size w w' :=
  (vers_any ⟨#[37, 80, 68, 70, 45, 50, 46, 48]⟩ w (by decide) hm).mono fun e w' ⟨h1, m, h2⟩ => ⟨h1.trans (by kernel_rfl), h2 ▸ ⟨rfl, rfl, rfl, Nat.le_refl _, fun _ _ => rfl⟩⟩
theorem hlv_v3 (w : World) (hm : MaxLenAt w) : Calls Tryz.prog 8 #[.string ⟨#[37, 80, 68, 70, 45, 49, 46]⟩] w fun e w' => e = .returned (.tuple #[.int .i64 0, .int .i64 0, .int .i64 17]) ∧ Below w.heap.size w w' :=
  (vers_any ⟨#[37, 80, 68, 70, 45, 49, 46]⟩ w (by decide) hm).mono fun e w' ⟨h1, m, h2⟩ => ⟨h1.trans (by kernel_rfl), h2 ▸ ⟨rfl, rfl, rfl, Nat.le_refl _, fun _ _ => rfl⟩⟩
theorem hlv_s1 (w : World) (hm : MaxLenAt w) : Calls Tryz.prog 12 #[.string ⟨#[97, 98, 99, 100, 101, 102, 103, 104, 105, 106, 115, 116, 97, 114, 116, 120, 114, 101, 102, 10, 53, 10, 37, 37, 69, 79, 70, 10]⟩] w fun e w' => e = .returned (.tuple #[.int .i64 5, .int .i64 0]) ∧ Below w.heap.size w w' :=
  (start_any ⟨#[97, 98, 99, 100, 101, 102, 103, 104, 105, 106, 115, 116, 97, 114, 116, 120, 114, 101, 102, 10, 53, 10, 37, 37, 69, 79, 70, 10]⟩ w (by decide) hm).mono fun e w' ⟨h1, h2⟩ => ⟨h1.trans (by kernel_rfl), h2⟩
theorem hlv_s2 (w : World) (hm : MaxLenAt w) : Calls Tryz.prog 12 #[.string ⟨#[115, 116, 97, 114, 116, 120, 114, 101, 102, 32, 57, 57, 32, 120]⟩] w fun e w' => e = .returned (.tuple #[.int .i64 0, .int .i64 18]) ∧ Below w.heap.size w w' :=
  (start_any ⟨#[115, 116, 97, 114, 116, 120, 114, 101, 102, 32, 57, 57, 32, 120]⟩ w (by decide) hm).mono fun e w' ⟨h1, h2⟩ => ⟨h1.trans (by kernel_rfl), h2⟩
theorem hlv_s3 (w : World) (hm : MaxLenAt w) : Calls Tryz.prog 12 #[.string ⟨#[115, 116, 97, 114, 116, 120, 114, 101, 102, 32, 45, 49, 32, 120]⟩] w fun e w' => e = .returned (.tuple #[.int .i64 0, .int .i64 18]) ∧ Below w.heap.size w w' :=
  (start_any ⟨#[115, 116, 97, 114, 116, 120, 114, 101, 102, 32, 45, 49, 32, 120]⟩ w (by decide) hm).mono fun e w' ⟨h1, h2⟩ => ⟨h1.trans (by kernel_rfl), h2⟩
theorem hlv_s4 (w : World) (hm : MaxLenAt w) : Calls Tryz.prog 12 #[.string ⟨#[]⟩] w fun e w' => e = .returned (.tuple #[.int .i64 0, .int .i64 18]) ∧ Below w.heap.size w w' :=
  (start_any ⟨#[]⟩ w (by decide) hm).mono fun e w' ⟨h1, h2⟩ => ⟨h1.trans (by kernel_rfl), h2⟩
theorem hlv_l1 (w : World) (ht : Tab10 w) : Calls Tryz.prog 14 #[.int .i64 5] w fun e w' => e = .returned (.string ⟨#[115, 116, 97, 114, 116, 120, 114, 101, 102, 10, 53, 10, 37, 37, 69, 79, 70, 10]⟩) ∧ Below w.heap.size w w' :=
  (tail_any 5 w ht).mono fun e w' ⟨h1, h2⟩ => ⟨h1.trans (by kernel_rfl), h2⟩
theorem hlv_l2 (w : World) (ht : Tab10 w) : Calls Tryz.prog 14 #[.int .i64 (-1)] w fun e w' => e = .returned (.string ⟨#[]⟩) ∧ Below w.heap.size w w' :=
  (tail_any (-1) w ht).mono fun e w' ⟨h1, h2⟩ => ⟨h1.trans (by kernel_rfl), h2⟩
theorem hlv_ends : endsS (⟨#[37, 37, 69, 79, 70, 10, 120, 13, 37, 37, 69, 79, 70]⟩ : ByteArray).data.toList = [6, 13] := by kernel_rfl
theorem hlv_e (w : World) (hm : MaxLenAt w) : Calls Tryz.prog 17 #[.string ⟨#[37, 37, 69, 79, 70, 10, 120, 13, 37, 37, 69, 79, 70]⟩] w fun e w' => ∃ A C, e = .returned (.slice A 2 C) ∧ w'.ownsRow w.heap.size 3 1 (.slice A 2 C) 2 [.int .i64 6, .int .i64 13] ∧ Below w.heap.size w w' := by
  have h := ends_any ⟨#[37, 37, 69, 79, 70, 10, 120, 13, 37, 37, 69, 79, 70]⟩ w (by decide) hm
  rw [hlv_ends] at h
  exact h

set_option maxRecDepth 100000 in
set_option maxHeartbeats 16000000 in
theorem hdLives_any (w : World) (ht : Tab10 w) (hm : MaxLenAt w) : Calls Tryz.prog 7 #[] w fun e w' => e = .returned (.bool true) ∧ Below w.heap.size w w' := by
  have HT0 := Lib.hid ht
  have HM0 := Lib.hid hm
  have HB0 := Lib.hid (Below.refl w.heap.size w)
  clear ht hm
  go_enter Tryz.func7, Tryz.ntmps7
  go_wp2_with fail
  refine (hlv_t1 _ HT0.out).mono ?_
  rintro e w1 ⟨rfl, hb⟩
  have HB1 := Lib.hid (HB0.out.trans (hb.mono HB0.out.size))
  have HT1 := Lib.hid (tab10_below HT0.out HB1.out (Nat.le_refl _))
  have HM1 := Lib.hid (HM0.out.below HB1.out)
  clear hb
  go_wp2_with fail
  refine (hlv_t2 _ HT1.out).mono ?_
  rintro e w2 ⟨rfl, hb⟩
  have HB2 := Lib.hid (HB1.out.trans (hb.mono HB1.out.size))
  have HT2 := Lib.hid (tab10_below HT0.out HB2.out (Nat.le_refl _))
  have HM2 := Lib.hid (HM0.out.below HB2.out)
  clear hb
  go_wp2_with fail
  refine (hlv_v1 _ HM2.out).mono ?_
  rintro e w3 ⟨rfl, hb⟩
  have HB3 := Lib.hid (HB2.out.trans (hb.mono HB2.out.size))
  have HT3 := Lib.hid (tab10_below HT0.out HB3.out (Nat.le_refl _))
  have HM3 := Lib.hid (HM0.out.below HB3.out)
  clear hb
  go_wp2_with fail
  refine (hlv_v2 _ HM3.out).mono ?_
  rintro e w4 ⟨rfl, hb⟩
  have HB4 := Lib.hid (HB3.out.trans (hb.mono HB3.out.size))
  have HT4 := Lib.hid (tab10_below HT0.out HB4.out (Nat.le_refl _))
  have HM4 := Lib.hid (HM0.out.below HB4.out)
  clear hb
  go_wp2_with fail
  refine (hlv_v3 _ HM4.out).mono ?_
  rintro e w5 ⟨rfl, hb⟩
  have HB5 := Lib.hid (HB4.out.trans (hb.mono HB4.out.size))
  have HT5 := Lib.hid (tab10_below HT0.out HB5.out (Nat.le_refl _))
  have HM5 := Lib.hid (HM0.out.below HB5.out)
  clear hb
  go_wp2_with fail
  refine (hlv_l1 _ HT5.out).mono ?_
  rintro e w6 ⟨rfl, hb⟩
  have HB6 := Lib.hid (HB5.out.trans (hb.mono HB5.out.size))
  have HT6 := Lib.hid (tab10_below HT0.out HB6.out (Nat.le_refl _))
  have HM6 := Lib.hid (HM0.out.below HB6.out)
  clear hb
  go_wp2_with fail
  refine (hlv_s1 _ HM6.out).mono ?_
  rintro e w7 ⟨rfl, hb⟩
  have HB7 := Lib.hid (HB6.out.trans (hb.mono HB6.out.size))
  have HT7 := Lib.hid (tab10_below HT0.out HB7.out (Nat.le_refl _))
  have HM7 := Lib.hid (HM0.out.below HB7.out)
  clear hb
  go_wp2_with fail
  refine (hlv_s2 _ HM7.out).mono ?_
  rintro e w8 ⟨rfl, hb⟩
  have HB8 := Lib.hid (HB7.out.trans (hb.mono HB7.out.size))
  have HT8 := Lib.hid (tab10_below HT0.out HB8.out (Nat.le_refl _))
  have HM8 := Lib.hid (HM0.out.below HB8.out)
  clear hb
  go_wp2_with fail
  refine (hlv_s3 _ HM8.out).mono ?_
  rintro e w9 ⟨rfl, hb⟩
  have HB9 := Lib.hid (HB8.out.trans (hb.mono HB8.out.size))
  have HT9 := Lib.hid (tab10_below HT0.out HB9.out (Nat.le_refl _))
  have HM9 := Lib.hid (HM0.out.below HB9.out)
  clear hb
  go_wp2_with fail
  refine (hlv_s4 _ HM9.out).mono ?_
  rintro e w10 ⟨rfl, hb⟩
  have HB10 := Lib.hid (HB9.out.trans (hb.mono HB9.out.size))
  have HT10 := Lib.hid (tab10_below HT0.out HB10.out (Nat.le_refl _))
  have HM10 := Lib.hid (HM0.out.below HB10.out)
  clear hb
  go_wp2_with fail
  refine (hlv_e _ HM10.out).mono ?_
  rintro e w11 ⟨A, C, rfl, hown, hb⟩
  have HO11 := Lib.hid hown
  clear hown
  have HB11 := Lib.hid (HB10.out.trans (hb.mono HB10.out.size))
  have HT11 := Lib.hid (tab10_below HT0.out HB11.out (Nat.le_refl _))
  have HM11 := Lib.hid (HM0.out.below HB11.out)
  clear hb
  go_wp2_with fail
  refine (hlv_l1 _ HT11.out).mono ?_
  rintro e w12 ⟨rfl, hb⟩
  have HO12 := Lib.hid (own_below HO11.out hb (Nat.le_refl _))
  have HB12 := Lib.hid (HB11.out.trans (hb.mono HB11.out.size))
  have HT12 := Lib.hid (tab10_below HT0.out HB12.out (Nat.le_refl _))
  have HM12 := Lib.hid (HM0.out.below HB12.out)
  clear hb
  go_wp2_with fail
  refine (hlv_l2 _ HT12.out).mono ?_
  rintro e w13 ⟨rfl, hb⟩
  have HO13 := Lib.hid (own_below HO12.out hb (Nat.le_refl _))
  have HB13 := Lib.hid (HB12.out.trans (hb.mono HB12.out.size))
  have HT13 := Lib.hid (tab10_below HT0.out HB13.out (Nat.le_refl _))
  have HM13 := Lib.hid (HM0.out.below HB13.out)
  clear hb
  obtain ⟨g1, c1, e1, _⟩ := HO13.out.form (by omega)
  injection e1 with e1 _ e3
  subst e1 e3
  have x0 := HO13.out.cellAt 0 (by omega)
  have x1 := HO13.out.cellAt 1 (by omega)
  simp only [List.getElem?_cons_zero, List.getElem?_cons_succ, Nat.zero_add] at x0 x1
  go_wp2_with fail
  go_ret
  exact ⟨rfl, HB13.out⟩
end Go.Proofs.YtdpbpdikgcepbaaGreatDoor
namespace Go.Proofs.YtdpbpdikgcepbaaGreatDoor
open Go.RowKit Go.Shelf Oct

theorem endsTo_no {l : List UInt8} {k : Nat} (h : beginsS l eof (k : Int) = false) : endsOf l (occTo l eof (k + 1)) = endsOf l (occTo l eof k) := by
  rw [occTo_miss l eof (k + 1) k (by omega) (fun i h1 h2 => by
    obtain rfl : i = k := by omega
    rw [← beginsS_ne (by decide)]
    exact h)]
theorem endsTo_off {l : List UInt8} {k : Nat} (h : beginsS l eof (k : Int) = true) (he : endOk l k = false) : endsOf l (occTo l eof (k + 1)) = endsOf l (occTo l eof k) := by
  rw [occTo_hit (by rw [← beginsS_ne (by decide)]; exact h), endsOf_miss he]
theorem endsTo_on {l : List UInt8} {k : Nat} (h : beginsS l eof (k : Int) = true) (he : endOk l k = true) : endsOf l (occTo l eof (k + 1)) = endsOf l (occTo l eof k) ++ [lineS l ((k : Int) + 5)] := by
  rw [occTo_hit (by rw [← beginsS_ne (by decide)]; exact h), endsOf_hit he]
theorem endsTo_len (l : List UInt8) (k : Nat) : (endsOf l (occTo l eof k)).length ≤ k := Nat.le_trans (endsOf_len _ _) (occTo_len _ _ _)
theorem intCells_snoc (E : List Int) (L : Int) : intCells (E ++ [L]) = intCells E ++ [.int .i64 L] := by simp [intCells]

/-- The row of the ends below k. -/
def EndsTo (w : World) (s : ByteArray) (k : Nat) (v : Value) (wr : World) : Prop :=
  wr.ownsRow w.heap.size 3 1 v (endsOf s.data.toList (occTo s.data.toList eof k)).length (intCells (endsOf s.data.toList (occTo s.data.toList eof k))) ∧ Below w.heap.size w wr

set_option maxRecDepth 100000 in
set_option maxHeartbeats 4000000 in
theorem endsR_any (s : ByteArray) (w : World) (hs : s.size ≤ 1000000) :
    Calls Tryz.prog 18 #[.string s] w fun e w' => ∃ A C, e = .returned (.slice A (endsS s.data.toList).length C) ∧ w'.ownsRow w.heap.size 3 1 (.slice A (endsS s.data.toList).length C) (endsS s.data.toList).length (intCells (endsS s.data.toList)) ∧ Below w.heap.size w w' := by
  obtain ⟨i0, hi, hz0, hz1, hz2⟩ := info_parts infoInt
  have hsl : s.data.toList.length = s.size := by simp
  have HSL := Lib.hid hsl
  clear hsl
  go_enter Tryz.func18, Tryz.ntmps18
  go_wp2_with fail
  go_loopw [3, 4] (fun v i wr => ∃ (k n : Nat) (A : Option Addr) (C : Nat), k ≤ s.size ∧ i = .int .i64 (k : Int) ∧ v = .slice A n C ∧ Hid (EndsTo w s k (.slice A n C) wr)) (fun _ i _ => s.size - (intOf i).toNat)
  case atStart => exact ⟨0, 0, none, 0, by omega, rfl, rfl, Lib.hid ⟨World.ownsRow_nil _ _ _ _, Below.refl _ _⟩⟩
  case round =>
    obtain ⟨k, n, A, C, hks, rfl, rfl, H⟩ := hrel
    by_cases hlt : (k : Int) < s.size
    · have hk : k < s.size := by omega
      obtain ⟨b, hb⟩ : ∃ b, beginsS s.data.toList eof (k : Int) = b := ⟨_, rfl⟩
      have hbeg := fun W => begins_rn s ⟨#[37, 37, 69, 79, 70]⟩ k b W (by omega) (by decide) hb
      have HBEG := Lib.hid hbeg
      clear hbeg
      cases b with
      | false =>
        have hn : EndsTo w s (k + 1) (.slice A n C) wr := by unfold EndsTo; rw [endsTo_no hb]; exact H.out
        have HN := Lib.hid hn
        clear hn hb
        go_wp2_with fail
        refine (HBEG.out _).mono ?_
        rintro e w2 ⟨rfl, rfl⟩
        go_wp2_with fail
        go_roundw
        · exact ⟨k + 1, n, A, C, by omega, by simp, rfl, HN.out⟩
        · simp [intOf]; omega
      | true =>
        have HB := Lib.hid hb
        clear hb
        obtain ⟨L, hL⟩ : ∃ L, lineS s.data.toList ((k : Int) + 5) = L := ⟨_, rfl⟩
        have hline : ∀ W, Calls Tryz.prog 32 #[.string s, .int .i64 ((k : Int) + 5)] W fun e w' => e = .returned (.int .i64 L) ∧ W = w' := fun W => hL ▸ line_r s _ W (by omega)
        have HLI := Lib.hid hline
        have HL := Lib.hid hL
        clear hline hL
        by_cases hz : k = 0
        · subst hz
          have HE : Hid (endOk s.data.toList 0 = true) := Lib.hid rfl
          go_wp2_with fail
          refine (HBEG.out _).mono ?_
          rintro e w2 ⟨rfl, rfl⟩
          go_wp2_with fail
          refine (HLI.out _).mono ?_
          rintro e w2 ⟨rfl, rfl⟩
          obtain ⟨E, hE⟩ : ∃ E, endsOf s.data.toList (occTo s.data.toList eof 0) = E := ⟨_, rfl⟩
          have hEl := endsTo_len s.data.toList 0
          rw [hE] at hEl
          have hO := H.out.1
          rw [hE] at hO
          have HO := Lib.hid hO
          have hbs := H.out.2.size
          have HEQ := Lib.hid hE
          clear hO hE
          go_wp2_with (at_builtin; refine wpList_append_lies _ rfl _ _ _ rfl w.heap.size 3 i0 (.int .i64 0) 1 8 Tryz.underlying32 hi hz0 hz1 hz2 rfl (by decide) (.slice A n C) E.length (intCells E) rfl (HO.out.alloc _) ⟨wr.heap.size, 0, none⟩ 1 1 [.int .i64 L] rfl rfl (World.news_of_block (heap_alloc_new wr _)) (by simp [Value.oneCell']) (by omega) (by unfold maxLen; omega) (by omega) (by simp; omega) (wr.heap.size + 1) (by simp) ?_; intro g cap w1 hown1 hgrow hat hlt1)
          have hn : EndsTo w s (0 + 1) (.slice (some ⟨g, 0, none⟩) (E.length + 1) cap) w1 := by
            refine ⟨?_, (H.out.2.alloc hbs _).grown hgrow (by simp; omega) (fun g2 h2 => (HO.out.lt g2 h2).1)⟩
            rw [endsTo_on HB.out HE.out, HEQ.out, HL.out, intCells_snoc, List.length_append]
            exact hown1
          have HN := Lib.hid hn
          clear hn hgrow hown1 hat
          go_roundw
          · exact ⟨0 + 1, E.length + 1, some ⟨g, 0, none⟩, cap, by omega, by simp, rfl, HN.out⟩
          · simp [intOf]; omega
        · obtain ⟨j, rfl⟩ : ∃ j, k = j + 1 := ⟨k - 1, by omega⟩
          have hjl : j < s.size := by omega
          have hel : s.data.toList[j + 1 - 1]? = some s[j] := by
            rw [Nat.add_sub_cancel]
            exact (List.getElem?_eq_getElem (by simpa using hjl)).trans rfl
          have hEq : endOk s.data.toList (j + 1) = (s[j] == 10 || s[j] == 13) := by
            unfold endOk
            rw [hel]
            rfl
          have HEQ0 := Lib.hid hEq
          clear hEq hel
          by_cases h10 : s[j] = 10
          · have HE : Hid (endOk s.data.toList (j + 1) = true) := Lib.hid (by rw [HEQ0.out, h10]; rfl)
            have t10 : ((s[j].toNat : Int) == 10) = true := by rw [h10]; rfl
            clear HEQ0 h10
            go_wp2_with fail
            refine (HBEG.out _).mono ?_
            rintro e w2 ⟨rfl, rfl⟩
            go_wp2_with fail
            refine (HLI.out _).mono ?_
            rintro e w2 ⟨rfl, rfl⟩
            obtain ⟨E, hE⟩ : ∃ E, endsOf s.data.toList (occTo s.data.toList eof (j + 1)) = E := ⟨_, rfl⟩
            have hEl := endsTo_len s.data.toList (j + 1)
            rw [hE] at hEl
            have hO := H.out.1
            rw [hE] at hO
            have HO := Lib.hid hO
            have hbs := H.out.2.size
            have HEQ := Lib.hid hE
            clear hO hE
            go_wp2_with (at_builtin; refine wpList_append_lies _ rfl _ _ _ rfl w.heap.size 3 i0 (.int .i64 0) 1 8 Tryz.underlying32 hi hz0 hz1 hz2 rfl (by decide) (.slice A n C) E.length (intCells E) rfl (HO.out.alloc _) ⟨wr.heap.size, 0, none⟩ 1 1 [.int .i64 L] rfl rfl (World.news_of_block (heap_alloc_new wr _)) (by simp [Value.oneCell']) (by omega) (by unfold maxLen; omega) (by omega) (by simp; omega) (wr.heap.size + 1) (by simp) ?_; intro g cap w1 hown1 hgrow hat hlt1)
            have hn : EndsTo w s (j + 1 + 1) (.slice (some ⟨g, 0, none⟩) (E.length + 1) cap) w1 := by
              refine ⟨?_, (H.out.2.alloc hbs _).grown hgrow (by simp; omega) (fun g2 h2 => (HO.out.lt g2 h2).1)⟩
              rw [endsTo_on HB.out HE.out, HEQ.out, HL.out, intCells_snoc, List.length_append]
              exact hown1
            have HN := Lib.hid hn
            clear hn hgrow hown1 hat
            go_roundw
            · exact ⟨j + 1 + 1, E.length + 1, some ⟨g, 0, none⟩, cap, by omega, by simp, rfl, HN.out⟩
            · simp [intOf]; omega
          · have t10 : ((s[j].toNat : Int) == 10) = false := by
              rw [beq_eq_false_iff_ne]
              intro e
              exact h10 (UInt8.toNat_inj.1 (by simpa using (by exact_mod_cast e : s[j].toNat = 10)))
            by_cases h13 : s[j] = 13
            · have HE : Hid (endOk s.data.toList (j + 1) = true) := Lib.hid (by rw [HEQ0.out, h13]; rfl)
              have t13 : ((s[j].toNat : Int) == 13) = true := by rw [h13]; rfl
              clear HEQ0 h10 h13
              go_wp2_with fail
              refine (HBEG.out _).mono ?_
              rintro e w2 ⟨rfl, rfl⟩
              go_wp2_with fail
              refine (HLI.out _).mono ?_
              rintro e w2 ⟨rfl, rfl⟩
              obtain ⟨E, hE⟩ : ∃ E, endsOf s.data.toList (occTo s.data.toList eof (j + 1)) = E := ⟨_, rfl⟩
              have hEl := endsTo_len s.data.toList (j + 1)
              rw [hE] at hEl
              have hO := H.out.1
              rw [hE] at hO
              have HO := Lib.hid hO
              have hbs := H.out.2.size
              have HEQ := Lib.hid hE
              clear hO hE
              go_wp2_with (at_builtin; refine wpList_append_lies _ rfl _ _ _ rfl w.heap.size 3 i0 (.int .i64 0) 1 8 Tryz.underlying32 hi hz0 hz1 hz2 rfl (by decide) (.slice A n C) E.length (intCells E) rfl (HO.out.alloc _) ⟨wr.heap.size, 0, none⟩ 1 1 [.int .i64 L] rfl rfl (World.news_of_block (heap_alloc_new wr _)) (by simp [Value.oneCell']) (by omega) (by unfold maxLen; omega) (by omega) (by simp; omega) (wr.heap.size + 1) (by simp) ?_; intro g cap w1 hown1 hgrow hat hlt1)
              have hn : EndsTo w s (j + 1 + 1) (.slice (some ⟨g, 0, none⟩) (E.length + 1) cap) w1 := by
                refine ⟨?_, (H.out.2.alloc hbs _).grown hgrow (by simp; omega) (fun g2 h2 => (HO.out.lt g2 h2).1)⟩
                rw [endsTo_on HB.out HE.out, HEQ.out, HL.out, intCells_snoc, List.length_append]
                exact hown1
              have HN := Lib.hid hn
              clear hn hgrow hown1 hat
              go_roundw
              · exact ⟨j + 1 + 1, E.length + 1, some ⟨g, 0, none⟩, cap, by omega, by simp, rfl, HN.out⟩
              · simp [intOf]; omega
            · have HE : Hid (endOk s.data.toList (j + 1) = false) := Lib.hid (by rw [HEQ0.out]; simp [h10, h13])
              have t13 : ((s[j].toNat : Int) == 13) = false := by
                rw [beq_eq_false_iff_ne]
                intro e
                exact h13 (UInt8.toNat_inj.1 (by simpa using (by exact_mod_cast e : s[j].toNat = 13)))
              have hn : EndsTo w s (j + 1 + 1) (.slice A n C) wr := by unfold EndsTo; rw [endsTo_off HB.out HE.out]; exact H.out
              have HN := Lib.hid hn
              clear HEQ0 h10 h13 hn
              go_wp2_with fail
              refine (HBEG.out _).mono ?_
              rintro e w2 ⟨rfl, rfl⟩
              go_wp2_with fail
              go_roundw
              · exact ⟨j + 1 + 1, n, A, C, by omega, by simp, rfl, HN.out⟩
              · simp [intOf]; omega
    · obtain rfl : k = s.size := by omega
      obtain ⟨ho, hbl⟩ := H.out
      have he : endsOf s.data.toList (occTo s.data.toList eof s.size) = endsS s.data.toList := by unfold endsS; rw [HSL.out]
      rw [he] at ho
      obtain ⟨A2, C2, e2⟩ := own_form ho
      injection e2 with e3 e4 e5
      subst e3 e4 e5
      have HO := Lib.hid ho
      have HB := Lib.hid hbl
      clear ho hbl he
      go_wp2_with fail
      go_ret
      exact ⟨A, C, by simp, HO.out, HB.out⟩
end Go.Proofs.YtdpbpdikgcepbaaGreatDoor
namespace Go.Proofs.YtdpbpdikgcepbaaGreatDoor
open Go.RowKit Go.Shelf Oct

/-- Two rows of the same whole numbers. -/
def SameI (w : World) (e : Ending) (w' : World) : Prop := e = .returned (.bool true) ∧ ∃ m, w' = w.drewN m
theorem int_at (l : List Int) (k : Nat) (h : k < l.length) : (intCells l)[k]? = some (.int .i64 l[k]) := by simp [intCells, h]
set_option maxRecDepth 100000 in
set_option maxHeartbeats 4000000 in
theorem sameI_yes (l : List Int) (A B : Option Addr) (C D b1 b2 : Nat) (w : World) (hl : l.length ≤ 1000000) (h1 : w.ownsRow b1 3 1 (.slice A l.length C) l.length (intCells l)) (h2 : w.ownsRow b2 3 1 (.slice B l.length D) l.length (intCells l)) :
    Calls Tryz.prog 16 #[.slice A l.length C, .slice B l.length D] w (SameI w) := by
  have H1 := Lib.hid h1
  have H2 := Lib.hid h2
  clear h1 h2
  obtain ⟨n, hn⟩ : ∃ n, l.length = n := ⟨_, rfl⟩
  have HN := Lib.hid hn
  rw [hn] at H1 H2 hl ⊢
  clear hn
  go_enter Tryz.func16, Tryz.ntmps16
  go_wp2_with fail
  go_loopw [5] (fun i wr => ∃ k m : Nat, k ≤ n ∧ i = .int .i64 (k : Int) ∧ wr = w.drewN m) (fun i _ => n - (intOf i).toNat)
  case atStart => exact ⟨0, 0, by omega, rfl, rfl⟩
  case round =>
    obtain ⟨k, m, hk, rfl, rfl⟩ := hrel
    by_cases hlt : k < n
    · have hkl : k < l.length := by rw [HN.out]; exact hlt
      obtain ⟨g1, c1, e1, _⟩ := H1.out.form (by omega)
      obtain ⟨g2, c2, e2, _⟩ := H2.out.form (by omega)
      injection e1 with e1 _ e3
      injection e2 with e2 _ e4
      subst e1 e2 e3 e4
      have x := (H1.out.cellAt k (by omega)).trans (int_at l k hkl)
      have y := (H2.out.cellAt k (by omega)).trans (int_at l k hkl)
      have i0 : (0 : Int) ≤ (k : Int) := by omega
      have i1 : (k : Int) < (n : Int) := by omega
      obtain ⟨z, hz⟩ : ∃ z, l[k] = z := ⟨_, rfl⟩
      rw [hz] at x y
      clear hz hkl
      go_wp2_with fail
      go_quiet (fail)
      clear x y
      go_wp2_with fail
      go_roundw
      case rel => exact ⟨k + 1, m + nq, by omega, by go_num, rfl⟩
      case measure => simp [intOf]; omega
    · go_wp2_with fail
      go_ret
      exact ⟨rfl, m, rfl⟩
end Go.Proofs.YtdpbpdikgcepbaaGreatDoor
namespace Go.Proofs.YtdpbpdikgcepbaaGreatDoor
open Go.RowKit Go.Shelf Oct Fix Lex

theorem drewN_below {w w' : World} (h : ∃ m, w' = w.drewN m) : Below w.heap.size w w' := by
  obtain ⟨m, rfl⟩ := h
  exact ⟨rfl, rfl, rfl, Nat.le_refl _, fun _ _ => rfl⟩
theorem vers_form (o : Option UInt8) : ∃ a b c : Int, versV o = .tuple #[.int .i64 a, .int .i64 b, .int .i64 c] := by
  cases o with
  | none => exact ⟨0, 0, 17, rfl⟩
  | some c => exact ⟨1, (c.toNat : Int) - 48, 0, rfl⟩

set_option maxRecDepth 100000 in
set_option maxHeartbeats 16000000 in
theorem hdTells_any (s : ByteArray) (n m : Int) (w : World) (hn : n ≤ 9223372036854775807) (ht : Tab10 w) (hm : MaxLenAt w) :
    Calls Tryz.prog 3 #[.string s, .int .i64 n, .int .i64 m] w fun e w' => e = .returned (.bool true) ∧ Below w.heap.size w w' := by
  have HT0 := Lib.hid ht
  have HM0 := Lib.hid hm
  have HB0 := Lib.hid (Below.refl w.heap.size w)
  clear ht hm
  by_cases hbig : 3000 < s.size
  · have h3 : (3000 : Int) < (s.size : Int) := by omega
    go_enter Tryz.func3, Tryz.ntmps3
    go_wp2_with fail
    refine (hdLives_any _ HT0.out HM0.out).mono ?_
    rintro e w1 ⟨rfl, hb⟩
    go_wp2_with fail
    go_ret
    exact ⟨rfl, hb⟩
  · have h3 : ¬ (3000 : Int) < (s.size : Int) := by omega
    obtain ⟨a, b, c, hv⟩ := vers_form (versN s.data.toList)
    have h1 : ∀ W, MaxLenAt W → Calls Tryz.prog 8 #[.string s] W fun e w' => e = .returned (.tuple #[.int .i64 a, .int .i64 b, .int .i64 c]) ∧ Below W.heap.size W w' := fun W hW =>
      (vers_any s W (by omega) hW).mono fun e w' ⟨h1, h2⟩ => ⟨h1.trans (by rw [hv]), drewN_below h2⟩
    have h2 : ∀ W, MaxLenAt W → Calls Tryz.prog 9 #[.string s] W fun e w' => e = .returned (.tuple #[.int .i64 a, .int .i64 b, .int .i64 c]) ∧ Below W.heap.size W w' := fun W _ =>
      (versR_any s W (by omega)).mono fun e w' ⟨h1, h2⟩ => ⟨h1.trans (by rw [hv]), drewN_below h2⟩
    obtain ⟨X, hX⟩ : ∃ X, bOf (textX n) = X := ⟨_, rfl⟩
    obtain ⟨Y, hY⟩ : ∃ Y, textE n = Y := ⟨_, rfl⟩
    have h4 : ∀ W, Tab10 W → Calls Tryz.prog 10 #[.int .i64 n] W fun e w' => e = .returned (.tuple #[.string X, .int .i64 Y]) ∧ Below W.heap.size W w' := fun W hW => hX ▸ hY ▸ htext_any n W hn hW
    have h5 : ∀ W, Tab10 W → Calls Tryz.prog 11 #[.int .i64 n] W fun e w' => e = .returned (.tuple #[.string X, .int .i64 Y]) ∧ Below W.heap.size W w' := fun W _ => hX ▸ hY ▸ htextR_any n W
    obtain ⟨P, hP⟩ : ∃ P, startX s.data.toList = P := ⟨_, rfl⟩
    obtain ⟨Q, hQ⟩ : ∃ Q, startE s.data.toList = Q := ⟨_, rfl⟩
    have h6 : ∀ W, MaxLenAt W → Calls Tryz.prog 12 #[.string s] W fun e w' => e = .returned (.tuple #[.int .i64 P, .int .i64 Q]) ∧ Below W.heap.size W w' := fun W hW => hP ▸ hQ ▸ start_any s W (by omega) hW
    have h7 : ∀ W, MaxLenAt W → Calls Tryz.prog 13 #[.string s] W fun e w' => e = .returned (.tuple #[.int .i64 P, .int .i64 Q]) ∧ Below W.heap.size W w' := fun W _ => hP ▸ hQ ▸ startR_any s W (by omega)
    obtain ⟨T, hT⟩ : ∃ T, bOf (tailX m) = T := ⟨_, rfl⟩
    have h8 : ∀ W, Tab10 W → Calls Tryz.prog 14 #[.int .i64 m] W fun e w' => e = .returned (.string T) ∧ Below W.heap.size W w' := fun W hW => hT ▸ tail_any m W hW
    have h9 : ∀ W, Tab10 W → Calls Tryz.prog 15 #[.int .i64 m] W fun e w' => e = .returned (.string T) ∧ Below W.heap.size W w' := fun W _ => hT ▸ tailR_any m W
    have hlen : (endsS s.data.toList).length ≤ 1000000 := by
      have := endsTo_len s.data.toList s.data.toList.length
      have h9 : s.data.toList.length = s.size := by simp
      unfold endsS
      omega
    obtain ⟨E, hE⟩ : ∃ E, endsS s.data.toList = E := ⟨_, rfl⟩
    have h10 := fun (W : World) (hW : MaxLenAt W) => ends_any s W (by omega) hW
    have h11 := fun (W : World) (_ : MaxLenAt W) => endsR_any s W (by omega)
    rw [hE] at hlen
    simp only [hE] at h10 h11
    have H1 := Lib.hid h1
    have H2 := Lib.hid h2
    have H3 := Lib.hid h4
    have H4 := Lib.hid h5
    have H5 := Lib.hid h6
    have H6 := Lib.hid h7
    have H7 := Lib.hid h8
    have H8 := Lib.hid h9
    have H9 := Lib.hid h10
    have H10 := Lib.hid h11
    have HL := Lib.hid hlen
    clear h1 h2 h4 h5 h6 h7 h8 h9 h10 h11 hlen hv hX hY hP hQ hT hE hbig
    obtain ⟨q, hq⟩ : ∃ q, E.length = q := ⟨_, rfl⟩
    rw [hq] at HL
    simp only [hq] at H9 H10
    go_enter Tryz.func3, Tryz.ntmps3
    go_wp2_with fail
    refine (H1.out _ HM0.out).mono ?_
    rintro e w1 ⟨rfl, hb⟩
    have HB1 := Lib.hid (HB0.out.trans (hb.mono HB0.out.size))
    have HT1 := Lib.hid (tab10_below HT0.out HB1.out (Nat.le_refl _))
    have HM1 := Lib.hid (HM0.out.below HB1.out)
    clear hb
    go_wp2_with fail
    refine (H2.out _ HM1.out).mono ?_
    rintro e w2 ⟨rfl, hb⟩
    have HB2 := Lib.hid (HB1.out.trans (hb.mono HB1.out.size))
    have HT2 := Lib.hid (tab10_below HT0.out HB2.out (Nat.le_refl _))
    have HM2 := Lib.hid (HM0.out.below HB2.out)
    clear hb
    go_wp2_with fail
    refine (H3.out _ HT2.out).mono ?_
    rintro e w3 ⟨rfl, hb⟩
    have HB3 := Lib.hid (HB2.out.trans (hb.mono HB2.out.size))
    have HT3 := Lib.hid (tab10_below HT0.out HB3.out (Nat.le_refl _))
    have HM3 := Lib.hid (HM0.out.below HB3.out)
    clear hb
    go_wp2_with fail
    refine (H4.out _ HT3.out).mono ?_
    rintro e w4 ⟨rfl, hb⟩
    have HB4 := Lib.hid (HB3.out.trans (hb.mono HB3.out.size))
    have HT4 := Lib.hid (tab10_below HT0.out HB4.out (Nat.le_refl _))
    have HM4 := Lib.hid (HM0.out.below HB4.out)
    clear hb
    go_wp2_with fail
    refine (H5.out _ HM4.out).mono ?_
    rintro e w5 ⟨rfl, hb⟩
    have HB5 := Lib.hid (HB4.out.trans (hb.mono HB4.out.size))
    have HT5 := Lib.hid (tab10_below HT0.out HB5.out (Nat.le_refl _))
    have HM5 := Lib.hid (HM0.out.below HB5.out)
    clear hb
    go_wp2_with fail
    refine (H6.out _ HM5.out).mono ?_
    rintro e w6 ⟨rfl, hb⟩
    have HB6 := Lib.hid (HB5.out.trans (hb.mono HB5.out.size))
    have HT6 := Lib.hid (tab10_below HT0.out HB6.out (Nat.le_refl _))
    have HM6 := Lib.hid (HM0.out.below HB6.out)
    clear hb
    go_wp2_with fail
    refine (H7.out _ HT6.out).mono ?_
    rintro e w7 ⟨rfl, hb⟩
    have HB7 := Lib.hid (HB6.out.trans (hb.mono HB6.out.size))
    have HT7 := Lib.hid (tab10_below HT0.out HB7.out (Nat.le_refl _))
    have HM7 := Lib.hid (HM0.out.below HB7.out)
    clear hb
    go_wp2_with fail
    refine (H8.out _ HT7.out).mono ?_
    rintro e w8 ⟨rfl, hb⟩
    have HB8 := Lib.hid (HB7.out.trans (hb.mono HB7.out.size))
    have HT8 := Lib.hid (tab10_below HT0.out HB8.out (Nat.le_refl _))
    have HM8 := Lib.hid (HM0.out.below HB8.out)
    clear hb
    go_wp2_with fail
    refine (H9.out _ HM8.out).mono ?_
    rintro e w9 ⟨A1, C1, rfl, hown, hb⟩
    have HO1 := Lib.hid hown
    clear hown
    have HB9 := Lib.hid (HB8.out.trans (hb.mono HB8.out.size))
    have HT9 := Lib.hid (tab10_below HT0.out HB9.out (Nat.le_refl _))
    have HM9 := Lib.hid (HM0.out.below HB9.out)
    clear hb
    go_wp2_with fail
    refine (H10.out _ HM9.out).mono ?_
    rintro e w10 ⟨A2, C2, rfl, hown, hb⟩
    have HO2 := Lib.hid hown
    clear hown
    have HP1 := Lib.hid (own_below HO1.out hb (Nat.le_refl _))
    have HB10 := Lib.hid (HB9.out.trans (hb.mono HB9.out.size))
    have HT10 := Lib.hid (tab10_below HT0.out HB10.out (Nat.le_refl _))
    have HM10 := Lib.hid (HM0.out.below HB10.out)
    clear hb
    go_wp2_with fail
    have hsame := sameI_yes E A1 A2 C1 C2 _ _ w10 (by rw [hq]; exact HL.out) (by rw [hq]; exact HP1.out) (by rw [hq]; exact HO2.out)
    rw [hq] at hsame
    refine hsame.mono ?_
    rintro e w11 ⟨rfl, hw⟩
    have HB11 := Lib.hid (HB10.out.trans ((drewN_below hw).mono HB10.out.size))
    have HT11 := Lib.hid (tab10_below HT0.out HB11.out (Nat.le_refl _))
    have HM11 := Lib.hid (HM0.out.below HB11.out)
    clear hsame hw
    go_wp2_with fail
    refine (hdLives_any _ HT11.out HM11.out).mono ?_
    rintro e w12 ⟨rfl, hb⟩
    have HB12 := Lib.hid (HB11.out.trans (hb.mono HB11.out.size))
    clear hb
    go_wp2_with fail
    go_ret
    exact ⟨rfl, HB12.out⟩
end Go.Proofs.YtdpbpdikgcepbaaGreatDoor
