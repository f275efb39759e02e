/-
  ops.Check.
-/
import Derived.Test.YtmpalhffmgiodaaDoorFldU
import Derived.BigQuiet
import Derived.LoopTactic
namespace Go.Proofs.YtmpalhffmgiodaaDoor
open Go.RowKit

/-- Operands in memory, by their kinds. -/
def ArgsAt (W : World) (A : Option Addr) (ks : List Int) : Prop :=
  ∀ j (h : j < ks.length), ∃ (b off : Nat) (y z : Int) (t : ByteArray) (qa ra : Option Addr) (ql qc rl rc : Nat), A = some ⟨b, off, none⟩ ∧ b < W.heap.size ∧
    W.cell? ⟨b, off + j * 6, none⟩ = some (.int .i64 ks[j]) ∧ W.cell? ⟨b, off + j * 6 + 1, none⟩ = some (.int .i64 y) ∧ W.cell? ⟨b, off + j * 6 + 2, none⟩ = some (.int .i64 z) ∧ W.cell? ⟨b, off + j * 6 + 3, none⟩ = some (.string t) ∧
    W.cell? ⟨b, off + j * 6 + 4, none⟩ = some (.slice qa ql qc) ∧ W.cell? ⟨b, off + j * 6 + 5, none⟩ = some (.slice ra rl rc)
theorem ArgsAt.below {W W' : World} {A : Option Addr} {ks : List Int} (h : ArgsAt W A ks) (hb : Below W.heap.size W W') : ArgsAt W' A ks := fun j hj => by
  obtain ⟨b, off, y, z, t, qa, ra, ql, qc, rl, rc, e, hlt, h0, h1, h2, h3, h4, h5⟩ := h j hj
  exact ⟨b, off, y, z, t, qa, ra, ql, qc, rl, rc, e, Nat.lt_of_lt_of_le hlt hb.size, (hb.cell (p := ⟨b, _, none⟩) hlt).trans h0, (hb.cell (p := ⟨b, _, none⟩) hlt).trans h1, (hb.cell (p := ⟨b, _, none⟩) hlt).trans h2, (hb.cell (p := ⟨b, _, none⟩) hlt).trans h3, (hb.cell (p := ⟨b, _, none⟩) hlt).trans h4, (hb.cell (p := ⟨b, _, none⟩) hlt).trans h5⟩
def fits (ks : List Int) (L : List UInt8) (k : Nat) : Bool := (List.range k).all fun j => matchK (ks.getD j 0) ((L.getD j 0).toNat : Int)
theorem fits_no {ks : List Int} {L : List UInt8} {k n : Nat} (h : fits ks L (k + 1) = false) (hk : k < n) : fits ks L n = false := by
  unfold fits at *
  rw [List.all_eq_false] at *
  obtain ⟨j, hj, h1⟩ := h
  exact ⟨j, List.mem_range.2 (by have := List.mem_range.1 hj; omega), h1⟩
/-- What Check answers. -/
def chkOp (name data : List UInt8) (ks : List Int) : Int := if takesL name = [63] then 28 else if ks.length ≠ (takesL name).length then 28 else if fits ks (takesL name) ks.length = false then 28 else if data ≠ [] ∧ name ≠ [66, 73] then 3 else 0

set_option maxRecDepth 100000 in
set_option maxHeartbeats 4000000 in
theorem opCheck_any (name data : ByteArray) (A : Option Addr) (ca : Nat) (ks : List Int) (w : World) (hA : ArgsAt w A ks) (hk : ks.length ≤ 1000000000) (hsp : SpaceAt w) (hg : 0 < w.heap.size) :
    Calls Tryd.prog 19 #[.agg #[.string name, .slice A ks.length ca, .string data]] w fun e w' => e = .returned (.int .i64 (chkOp name.data.toList data.data.toList ks)) ∧ Below w.heap.size w w' := by
  obtain ⟨N, hN⟩ : ∃ N, w.heap.size = N := ⟨_, rfl⟩
  obtain ⟨V, hV⟩ : ∃ V, w.alloc (.cells #[.string name, .slice A ks.length ca, .string data] 40) = V := ⟨_, rfl⟩
  have b0 : Blk V N 40 #[.string name, .slice A ks.length ca, .string data] := by rw [← hV, ← hN]; exact Blk.new w _ _
  have hBV : Below N w V := by rw [← hV, ← hN]; exact (Below.refl _ w).alloc (Nat.le_refl _) _
  have hVs : V.heap.size = N + 1 := by rw [← hV, World.size_alloc, hN]
  have HT := Lib.hid (takes_any name V (hsp.below hBV (by rw [← hN]; exact hg)) (by omega))
  have HV := Lib.hid (And.intro b0 (And.intro hBV hVs))
  obtain ⟨L, hL⟩ : ∃ L, takesL name.data.toList = L := ⟨_, rfl⟩
  obtain ⟨LS, hLS⟩ : ∃ LS : ByteArray, (⟨L.toArray⟩ : ByteArray) = LS := ⟨_, rfl⟩
  have hLd : LS.data.toList = L := by rw [← hLS]
  have hLn : LS.size = L.length := by rw [← hLS]; rfl
  rw [hL, hLS] at HT
  have hz : chkOp name.data.toList data.data.toList ks = if L = [63] then 28 else if ks.length ≠ L.length then 28 else if fits ks L ks.length = false then 28 else if data.data.toList ≠ [] ∧ name.data.toList ≠ [66, 73] then 3 else 0 := by unfold chkOp; rw [hL]
  obtain ⟨z, hzz⟩ : ∃ z, chkOp name.data.toList data.data.toList ks = z := ⟨_, rfl⟩
  rw [hzz] at hz ⊢
  have HZ := Lib.hid hz
  have c0 := b0.cell 0
  obtain ⟨n, hn⟩ : ∃ n, ks.length = n := ⟨_, rfl⟩
  rw [hn] at HV c0 b0 ⊢
  rw [hN]
  clear hL hz hzz hBV
  by_cases h63 : L = [63]
  · have q1 : (LS.toList == [63]) = true := by rw [ByteArray.toList_eq, hLd, h63]; rfl
    have HZ1 := Lib.hid (show z = 28 by rw [HZ.out, if_pos h63])
    rw [hn] at hV
    go_enter Tryd.func19, Tryd.ntmps19
    go_wp2_with fail
    rw [hVs] at HT
    refine HT.out.mono ?_
    rintro e w1 ⟨rfl, hb⟩
    have HB1 := Lib.hid (HV.out.2.1.trans (hb.mono (by omega)))
    clear hb
    go_wp2_with fail
    go_ret
    exact ⟨by rw [HZ1.out] <;> rfl, HB1.out⟩
  · have q1 : (LS.toList == [63]) = false := by rw [ByteArray.toList_eq, hLd]; simpa using h63
    have HZ := Lib.hid (show z = if n ≠ L.length then 28 else if fits ks L n = false then 28 else if data.data.toList ≠ [] ∧ name.data.toList ≠ [66, 73] then 3 else 0 by rw [HZ.out, if_neg h63, hn])
    rw [hn] at hV
    rw [hVs] at HT
    by_cases hln : n = L.length
    · have hnL : (n : Int) = (LS.size : Int) := by omega
      have HZ := Lib.hid (show z = if fits ks L n = false then 28 else if data.data.toList ≠ [] ∧ name.data.toList ≠ [66, 73] then 3 else 0 by rw [HZ.out, if_neg (by omega)])
      have HNN := Lib.hid hN
      have HA := Lib.hid (fun W (hb : Below N w W) => hA.below (W' := W) (by rw [hN]; exact hb))
      have HKn := Lib.hid hn
      have HLd := Lib.hid hLd
      have HLn := Lib.hid hLn
      have HLS := Lib.hid hln
      have hnbI : (n : Int) ≤ 1000000000 := by omega
      clear hA hLS hLd hLn hln hn
      go_enter Tryd.func19, Tryd.ntmps19
      go_wp2_with fail
      refine HT.out.mono ?_
      rintro e w1 ⟨rfl, hb⟩
      have HB1 := Lib.hid (show Below N w w1 ∧ Blk w1 N 40 #[.string name, .slice A n ca, .string data] from ⟨HV.out.2.1.trans (hb.mono (by omega)), HV.out.1.below hb (by omega)⟩)
      have c1 := HB1.out.2.cell 1
      clear hb c0 b0 hV hVs HV HT
      go_wp2_with fail
      go_loopw [22] (fun iv wr => ∃ k : Nat, k ≤ n ∧ iv = .int .i64 (k : Int) ∧ Hid (Below N w wr ∧ Blk wr N 40 #[.string name, .slice A n ca, .string data] ∧ fits ks L k = true)) (fun iv _ => n - (intOf iv).toNat)
      case atStart => exact ⟨0, by omega, rfl, Lib.hid ⟨HB1.out.1, HB1.out.2, rfl⟩⟩
      case round =>
        clear HB1 c1
        obtain ⟨k, hk', rfl, HI⟩ := hrel
        by_cases hlt : k < n
        · have hkl : k < ks.length := by rw [HKn.out]; exact hlt
          have hik : (k : Int) < (n : Int) := by omega
          have hik0 : (0 : Int) ≤ (k : Int) := by omega
          have hil : (k : Int) < (LS.size : Int) := by omega
          obtain ⟨b, off, y, u, t, qa, ra, ql, qc, rl, rc, rfl, hbw, e0, e1, e2, e3, e4, e5⟩ := (HA.out _ HI.out.1) k hkl
          have hkL : k < L.length := by have := HLS.out; omega
          have HFt := Lib.hid (show fits ks L (k + 1) = (fits ks L k && matchK (ks.getD k 0) ((L.getD k 0).toNat : Int)) by unfold fits; rw [List.range_succ, List.all_append]; simp)
          have hkd : ks.getD k 0 = ks[k] := by simp [List.getD, hkl]
          have hLk : (L.getD k 0) = LS[k]'(by have := HLn.out; omega) := by
            rw [List.getD_eq_getElem?_getD, List.getElem?_eq_getElem hkL]
            show L[k] = _
            have h3 : LS.data.toList[k]'(by rw [HLd.out]; exact hkL) = LS[k]'(by have := HLn.out; omega) := rfl
            rw [← h3]
            simp [HLd.out]
          rw [hkd, hLk, HI.out.2.2, Bool.true_and] at HFt
          obtain ⟨x, hx⟩ : ∃ x, ks[k] = x := ⟨_, rfl⟩
          obtain ⟨cb, hcb⟩ : ∃ cb, (LS[k]'(by have := HLn.out; omega)).toNat = cb := ⟨_, rfl⟩
          rw [hx] at e0 HFt
          rw [hcb] at HFt
          have HMt := Lib.hid (fun W : World => matches_any x (cb : Int) W)
          obtain ⟨mb, hmb⟩ : ∃ mb, matchK x (cb : Int) = mb := ⟨_, rfl⟩
          rw [hmb] at HMt HFt
          clear hx hmb hkd hLk
          have hBn := Lib.hid (show Below N w (wr.alloc (.cells #[.int .i64 x, .int .i64 y, .int .i64 u, .string t, .slice qa ql qc, .slice ra rl rc] 59)) ∧ Blk (wr.alloc (.cells #[.int .i64 x, .int .i64 y, .int .i64 u, .string t, .slice qa ql qc, .slice ra rl rc] 59)) N 40 #[.string name, .slice (some ⟨b, off, none⟩) n ca, .string data] from ⟨HI.out.1.alloc (by have := HI.out.2.1.lt; omega) _, HI.out.2.1.alloc _⟩)
          have HU0 := Lib.hid ((Blk.new wr 59 #[.int .i64 x, .int .i64 y, .int .i64 u, .string t, .slice qa ql qc, .slice ra rl rc]).cell 0)
          cases mb with
          | true =>
            go_wp2_with fail
            obtain ⟨U, hU⟩ : ∃ U, wr.alloc (.cells #[.int .i64 x, .int .i64 y, .int .i64 u, .string t, .slice qa ql qc, .slice ra rl rc] 59) = U := ⟨_, rfl⟩
            have d0 := HU0.out
            rw [hU] at d0 hBn ⊢
            clear hU
            go_quiet ((go_at_call 51; exact Calls.quiet_of_same (same_q (HMt.out _))))
            go_wp2
            go_roundw
            case rel => exact ⟨k + 1, by omega, by go_num, Lib.hid ⟨below_drewN hBn.out.1 _, Blk.drewN hBn.out.2 _, HFt.out⟩⟩
            case measure => simp [intOf]; omega
          | false =>
            have HZ1 := Lib.hid (show z = 28 by rw [HZ.out, if_pos (fits_no HFt.out hlt)])
            go_wp2_with fail
            obtain ⟨U, hU⟩ : ∃ U, wr.alloc (.cells #[.int .i64 x, .int .i64 y, .int .i64 u, .string t, .slice qa ql qc, .slice ra rl rc] 59) = U := ⟨_, rfl⟩
            have d0 := HU0.out
            rw [hU] at d0 hBn ⊢
            clear hU
            go_quiet ((go_at_call 51; exact Calls.quiet_of_same (same_q (HMt.out _))))
            go_wp2
            go_ret
            exact ⟨by rw [HZ1.out] <;> rfl, below_drewN hBn.out.1 _⟩
        · obtain rfl : k = n := by omega
          have HZ := Lib.hid (show z = if data.data.toList ≠ [] ∧ name.data.toList ≠ [66, 73] then 3 else 0 by rw [HZ.out, HI.out.2.2, if_neg (by decide)])
          have c0 := HI.out.2.1.cell 0
          have c2 := HI.out.2.1.cell 2
          by_cases hd : data.data.toList = []
          · have q2 : (data.toList == []) = true := by rw [ByteArray.toList_eq, hd]; rfl
            have q3 : data.toList = [] := by rw [ByteArray.toList_eq, hd]
            have HZ1 := Lib.hid (show z = 0 by rw [HZ.out, if_neg (fun h => h.1 hd)])
            clear hd
            go_wp2_with fail
            go_ret
            exact ⟨by rw [HZ1.out] <;> rfl, HI.out.1⟩
          · have q2 : (data.toList == []) = false := by rw [ByteArray.toList_eq]; simpa using hd
            by_cases hm : name.data.toList = [66, 73]
            · have q3 : (name.toList == [66, 73]) = true := by rw [ByteArray.toList_eq, hm]; rfl
              have HZ1 := Lib.hid (show z = 0 by rw [HZ.out, if_neg (fun h => h.2 hm)])
              clear hd hm
              go_wp2_with fail
              go_ret
              exact ⟨by rw [HZ1.out] <;> rfl, HI.out.1⟩
            · have q3 : (name.toList == [66, 73]) = false := by rw [ByteArray.toList_eq]; simpa using hm
              have HZ1 := Lib.hid (show z = 3 by rw [HZ.out, if_pos ⟨hd, hm⟩])
              clear hd hm
              go_wp2_with fail
              go_ret
              exact ⟨by rw [HZ1.out] <;> rfl, HI.out.1⟩
    · have hnI : ¬ (n : Int) = (LS.size : Int) := by omega
      have hnb : ((n : Int) == (LS.size : Int)) = false := by simpa using hnI
      have HZ1 := Lib.hid (show z = 28 by rw [HZ.out, if_pos hln])
      go_enter Tryd.func19, Tryd.ntmps19
      go_wp2_with fail
      refine HT.out.mono ?_
      rintro e w1 ⟨rfl, hb⟩
      have HB1 := Lib.hid (HV.out.2.1.trans (hb.mono (by omega)))
      have c0' := (HV.out.1.below hb (by omega)).cell 1
      clear hb
      go_wp2_with fail
      go_ret
      exact ⟨by rw [HZ1.out] <;> rfl, HB1.out⟩
end Go.Proofs.YtmpalhffmgiodaaDoor
