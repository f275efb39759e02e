/-
  code's Table.Write.
-/
import Derived.Test.YtbgechfmbogbpaaCodI
import Derived.Test.YtbgechfmbogbpaaBitK
import Derived.StillTailTactics
namespace Go.Proofs.Ytbgechfmbogbpaa
open Go.RowKit Cod Bt

namespace Cod
/-- What a writer holds: its bytes, how many bits of the last one are written, its order. -/
abbrev St1 := List UInt8 × Nat × Int
def putB (st : St1) (b : Nat) : St1 := (wrL st.1 st.2.1 st.2.2 (b : Int) 1 1, wrP st.2.1 st.2.2 (b : Int) 1 1, wrO st.2.2 (b : Int) 1 1)
def good1 (st : St1) : Prop := Fit st.2.2 st.1 st.2.1 ∧ (st.2.2 = 0 ∨ st.2.2 = 1)
theorem wbad_one {o : Int} {b : Nat} (ho : o = 0 ∨ o = 1) (hb : b < 2) : wbad o (b : Int) 1 1 = false := by
  have : b = 0 ∨ b = 1 := by omega
  rcases ho with rfl | rfl <;> rcases this with rfl | rfl <;> decide
theorem good1_put {st : St1} (h : good1 st) {b : Nat} (hb : b < 2) : good1 (putB st b) := by
  obtain ⟨hf, ho⟩ := h
  refine ⟨wr_fit hf (Or.inl rfl), ?_⟩
  show wrO st.2.2 (b : Int) 1 1 = 0 ∨ wrO st.2.2 (b : Int) 1 1 = 1
  unfold wrO
  rw [wbad_one ho hb]
  exact Or.inr rfl
theorem putB_len (st : St1) (b : Nat) : (putB st b).1.length ≤ st.1.length + 24 := wr_le
/-- Behind the first k bits of a code word c of n bits. -/
def wrS (c n : Nat) (st : St1) : Nat → St1
  | 0 => st
  | k + 1 => putB (wrS c n st k) (bitO 2 c n k)
theorem wrS_good {c n : Nat} {st : St1} (h : good1 st) : ∀ k, good1 (wrS c n st k)
  | 0 => h
  | k + 1 => good1_put (wrS_good h k) (bitO_lt _ _ _ _)
theorem wrS_len (c n : Nat) (st : St1) : ∀ k, (wrS c n st k).1.length ≤ st.1.length + 24 * k
  | 0 => Nat.le_refl _
  | k + 1 => by
    have h1 := wrS_len c n st k
    have h2 := putB_len (wrS c n st k) (bitO 2 c n k)
    simp only [wrS]
    omega
end Cod

/-- What the writer g holds behind calls on it, the world w before them. -/
def WroteB (B : Nat) (w : World) (g : Nat) (r : Option Nat) (st : St1) (w' : World) : Prop := Wrote 77 B w g r st.1 st.2.1 st.2.2 w'
def WrB (B : Nat) (w : World) (g : Nat) (r : Option Nat) (st : St1) : Prop := Wr 77 B w g r st.1 st.2.1 st.2.2
theorem wlow_c' (B g : Nat) (r : Option Nat) (st : St1) (b : Nat) (w : World) (hll : st.1.length ≤ 900000) (hBw : B ≤ w.heap.size) (h : WrB B w g r st) (hg : good1 st) (hb : b < 2) :
    Calls Try.prog 46 #[.pointer (some ⟨g, 0, none⟩), .int .i64 (b : Int), .int .i64 1] w fun e w' => e = .returned (.int .i64 0) ∧ WroteB B w g r (putB st b) w' := by
  have h1 := wlow_any B g r st.1 st.2.1 st.2.2 (b : Int) 1 w hll hBw h hg.1
  unfold Put at h1
  have hE : wrE st.2.2 (b : Int) 1 1 = 0 := by unfold wrE; rw [wbad_one hg.2 hb]; rfl
  rw [hE] at h1
  exact h1
theorem WroteB.then_ {B : Nat} {w w1 w2 : World} {g : Nat} {r r1 : Option Nat} {st' : St1} (hr : r1 = r ∨ ∃ k, r1 = some k ∧ w.heap.size ≤ k) (ht : Two w w1 g r) (h : WroteB B w1 g r1 st' w2) : WroteB B w g r st' w2 := Wrote.then hr ht h
theorem two_below' {D : Nat} {w0 w w' : World} {g : Nat} {r : Option Nat} (h0 : Below D w0 w) (h : Two w w' g r) (hg : D ≤ g) (hr : ∀ k, r = some k → D ≤ k) (hD : D ≤ w.heap.size) : Below D w0 w' := h0.trans (h.below hD hg hr)

theorem wr_grown' {B : Nat} {w w' : World} {g : Nat} {r : Option Nat} {st : St1} (h : WrB B w g r st) (hg : w.grownBy w' none) : WrB B w' g r st := by
  obtain ⟨v, k1, k2, k3, k4, k5⟩ := h
  exact ⟨v, k1.grown hg (by simp), k2.kept hg (by rw [k3]; cases r <;> simp), k3, k4, k5⟩
theorem bit_high' (V m k j : Nat) (hV : V < 9223372036854775808) (hj : m - 1 - k = j) : bits .and .i64 ((V : Int) / 2 ^ j) 1 = ((bitO 2 V m k : Nat) : Int) := by
  have e : ((V : Int) / 2 ^ j) = ((V / 2 ^ j : Nat) : Int) := by rw [Int.natCast_ediv]; congr 1
  have hd : V / 2 ^ j ≤ V := Nat.div_le_self _ _
  unfold bitO
  rw [e, if_pos rfl, hj]
  generalize V / 2 ^ j = y at *
  rw [show (1 : Int) = ((1 : Nat) : Int) from rfl, i64_and_nat y 1 (by omega) (by decide), Nat.and_one_is_mod]

set_option maxRecDepth 100000 in
set_option maxHeartbeats 4000000 in
theorem write_bad (b : Nat) (L : List Int) (P : Option Addr) (x : Int) (w : World) (D : Nat) (ht : TblAt D w b L) (hl : L.length ≤ 288) (hx : x < 0 ∨ (L.length : Int) ≤ x) (g : Nat) (hP : P = some ⟨g, 0, none⟩) :
    Calls Try.prog 25 #[.pointer (some ⟨b, 0, none⟩), .pointer P, .int .i64 x] w fun e w' => e = .returned (.int .i64 1) ∧ Below w.heap.size w w' := by
  subst hP
  obtain ⟨A2, c2, Rc, Rs, k1, _⟩ := ht.out
  have q0 := k1.cell 0
  simp only [tb, List.getElem?_toArray, List.getElem?_cons_zero] at q0
  obtain ⟨n, hn⟩ : ∃ n, L.length = n := ⟨_, rfl⟩
  rw [hn] at q0 hx hl
  clear ht k1 hn
  rcases hx with hx | hx
  · go_enter Try.func25, Try.ntmps25
    go_wp2_with fail
    go_ret
    exact ⟨rfl, Below.refl _ _⟩
  · have hx0 : ¬ x < 0 := by omega
    go_enter Try.func25, Try.ntmps25
    go_wp2_with fail
    go_ret
    exact ⟨rfl, Below.refl _ _⟩

set_option maxRecDepth 100000 in
set_option maxHeartbeats 4000000 in
theorem write_none (b : Nat) (L : List Int) (i : Nat) (w : World) (D : Nat) (ht : TblAt D w b L) (_hl : L.length ≤ 288) (hi : i < L.length) (h0 : L[i] = 0) (g : Nat) :
    Calls Try.prog 25 #[.pointer (some ⟨b, 0, none⟩), .pointer (some ⟨g, 0, none⟩), .int .i64 (i : Int)] w fun e w' => e = .returned (.int .i64 13) ∧ Below w.heap.size w w' := by
  obtain ⟨A2, c2, Rc, Rs, k1, _, k3, _⟩ := ht.out
  have q0 := k1.cell 0
  simp only [tb, List.getElem?_toArray, List.getElem?_cons_zero] at q0
  obtain ⟨bb, off, rfl, _, q1⟩ := k3 i hi
  rw [h0] at q1
  obtain ⟨n, hn⟩ : ∃ n, L.length = n := ⟨_, rfl⟩
  rw [hn] at q0 hi
  have hi1 : (i : Int) < (n : Int) := by omega
  have hi2 : ¬ (i : Int) < 0 := by omega
  have hi3 : ¬ (n : Int) ≤ (i : Int) := by omega
  clear ht k1 k3 hn h0
  go_enter Try.func25, Try.ntmps25
  go_wp2_with fail
  go_ret
  exact ⟨rfl, Below.refl _ _⟩

set_option maxRecDepth 100000 in
set_option maxHeartbeats 4000000 in
theorem write_any (b : Nat) (L : List Int) (i : Nat) (w : World) (D B g : Nat) (r : Option Nat) (st : St1) (ht : TblAt D w b L) (hc : chkE L = 0) (hi : i < L.length) (h0 : 0 < L[i]) (hw : WrB B w g r st) (hg : good1 st) (hll : st.1.length ≤ 800000) (hDB : D ≤ B) (hBw : B ≤ w.heap.size) :
    Calls Try.prog 25 #[.pointer (some ⟨b, 0, none⟩), .pointer (some ⟨g, 0, none⟩), .int .i64 (i : Int)] w fun e w' => e = .returned (.int .i64 0) ∧ WroteB B w g r (wrS (codeAt L i) L[i].toNat st L[i].toNat) w' := by
  obtain ⟨hl, hr, _⟩ := chk_ok hc
  have hrg := range_at hr i hi
  obtain ⟨m, hm⟩ : ∃ m : Nat, L[i] = (m : Int) := ⟨L[i].toNat, by omega⟩
  obtain ⟨c, hcd⟩ : ∃ c, codeAt L i = c := ⟨_, rfl⟩
  have hcb : c ≤ 40000000000 := by
    have h1 := codeAt_nx L hi hm (by omega)
    have h2 := (nx_le L (by omega) i m (by omega) (by omega)).2
    omega
  have hBg : B ≤ g := by obtain ⟨_, _, _, _, _, h⟩ := hw; exact h
  have hrB : ∀ k, r = some k → B ≤ k := fun k hk => (Wr.row_in hw k hk).1
  have HRB := Lib.hid hrB
  obtain ⟨A2, c2, Rc, Rs, k1, kb, k3, k4, k5, _⟩ := ht.out
  obtain ⟨bb, off, rfl, hbb, q1⟩ := k3 i hi
  have k4' : IRow w Rc (codesL L) := k4
  have q2 := k4'.cell i (by unfold codesL; rw [codesK_len]; exact hi)
  have hcode : (codesL L)[i]'(by unfold codesL; rw [codesK_len]; exact hi) = (c : Int) := by
    unfold codesL
    rw [codesK_get, if_pos hi, hcd]
  rw [hcode] at q2
  rw [hm] at q1 h0 ⊢
  rw [hcd, Int.toNat_natCast]
  obtain ⟨n, hn⟩ : ∃ n, L.length = n := ⟨_, rfl⟩
  have q0 := k1.cell 0
  have q3 := k1.cell 1
  simp only [tb, List.getElem?_toArray, List.getElem?_cons_zero, List.getElem?_cons_succ] at q0 q3
  rw [hn] at q0 q3 hi hl
  have HKeep := Lib.hid (show ∀ W, Below D w W → W.cell? ⟨b, 0, none⟩ = some (.slice (some ⟨bb, off, none⟩) n c2) ∧ W.cell? ⟨b, 1, none⟩ = some (.slice (some ⟨Rc, 0, none⟩) n n) ∧ W.cell? ⟨bb, off + i, none⟩ = some (.int .i64 (m : Int)) ∧ W.cell? ⟨Rc, i, none⟩ = some (.int .i64 (c : Int)) from fun W hW =>
    ⟨(hW.cell (p := ⟨b, _, none⟩) kb).trans q0, (hW.cell (p := ⟨b, _, none⟩) kb).trans q3, (hW.cell (p := ⟨bb, _, none⟩) hbb).trans q1, (hW.cell (p := ⟨Rc, _, none⟩) k5).trans q2⟩)
  have hm15 : m ≤ 15 := by omega
  have hm0 : 0 < m := by omega
  have hi1 : (i : Int) < (n : Int) := by omega
  have hi0 : (0 : Int) ≤ (i : Int) := by omega
  have hi2 : ¬ (i : Int) < 0 := by omega
  have hi3 : ¬ (n : Int) ≤ (i : Int) := by omega
  have hmI : ¬ (m : Int) = 0 := by omega
  have HGd := Lib.hid (fun k => wrS_good (c := c) (n := m) hg k)
  have HLn := Lib.hid (fun k => wrS_len c m st k)
  have HW0 := Lib.hid (show WroteB B w g r (wrS c m st 0) w from Wrote.same hw)
  have HBB := Lib.hid hBw
  have HB0 := Lib.hid (show Below D w w ∧ B ≤ w.heap.size from ⟨Below.refl _ _, hBw⟩)
  have HDg := Lib.hid (show D ≤ g by omega)
  clear ht k1 k3 k4 k4' hn hcd hcode hm hrg hw hg hr hc hrB
  go_enter Try.func25, Try.ntmps25
  go_wp2_with fail
  go_loopw [43] (fun iv wr => ∃ k : Nat, k ≤ m ∧ iv = .int .i64 (k : Int) ∧ Hid (WroteB B w g r (wrS c m st k) wr) ∧ Hid (Below D w wr ∧ B ≤ wr.heap.size)) (fun iv _ => m - (intOf iv).toNat)
  case atStart => exact ⟨0, by omega, rfl, HW0, HB0⟩
  case round =>
    clear HW0 HB0 q0 q1 q2 q3
    obtain ⟨k, hk, rfl, HW, HB⟩ := hrel
    by_cases hlt : k < m
    · have hik : (k : Int) < (m : Int) := by omega
      have hik0 : (0 : Int) ≤ (k : Int) := by omega
      obtain ⟨r2, hr2, hw2, htw⟩ := HW.out
      have hLw : (wrS c m st k).1.length ≤ 900000 := by have := HLn.out k; omega
      have HCl := Lib.hid (fun (W : World) (hWW : wr.grownBy W none) => wlow_c' B g r2 (wrS c m st k) (bitO 2 c m k) W hLw (by have := HB.out.2; have := hWW.size; omega) (by
        exact wr_grown' hw2 hWW) (HGd.out k) (bitO_lt _ _ _ _))
      have HTW := Lib.hid htw
      have HR2 := Lib.hid hr2
      obtain ⟨j, hj⟩ : ∃ j, m - 1 - k = j := ⟨_, rfl⟩
      have hbit := bit_high' c m k j (by omega) hj
      obtain ⟨y, hy⟩ : ∃ y, bitO 2 c m k = y := ⟨_, rfl⟩
      have HS := Lib.hid (show wrS c m st (k + 1) = putB (wrS c m st k) y by rw [← hy]; rfl)
      rw [hy] at hbit HCl
      have HBit := Lib.hid hbit
      clear hbit hr2 htw hw2 hy
      go_wp2_with fail
      go_still_tail 20, (by kernel_rfl)
      obtain ⟨wd, hwd⟩ : ∃ wd, ({ heap := wr.heap, tape := wr.tape, drawn := wr.drawn + 1, os := wr.os, output := wr.output } : World) = wd := ⟨_, rfl⟩
      have HGd1 := Lib.hid (show wr.grownBy wd none by rw [← hwd]; exact grown_drewN (World.grownBy.refl _ _) 1)
      obtain ⟨e0, e1, e2, e3⟩ := HKeep.out wd (by rw [← hwd]; exact below_drewN HB.out.1 1)
      rw [hwd]
      clear hwd
      have d4 : IntKind.i64.wrap ((m : Int) - 1) = (m : Int) - 1 := IntWalk.i64_in _ (by omega)
      have d5 : IntKind.i64.wrap ((m : Int) - 1 - (k : Int)) = (j : Int) := by rw [IntWalk.i64_in _ (by omega)]; omega
      have d6 : (0 : Int) ≤ (j : Int) := by omega
      have d7 : (j : Int) ≤ 64 := by omega
      have hbit := HBit.out
      repeat still_step
      refine wpStill_nil ?_
      go_wp2_with fail
      refine (HCl.out wd HGd1.out).mono ?_
      rintro e w1 ⟨rfl, hw1⟩
      have HW1 := Lib.hid (show WroteB B w g r (wrS c m st (k + 1)) w1 by rw [HS.out]; exact WroteB.then_ HR2.out (HTW.out.grown HGd1.out (Or.inr (Or.inl rfl))) hw1)
      have HB1 := Lib.hid (show Below D w w1 ∧ B ≤ w1.heap.size by
        obtain ⟨r3, _, _, ht3⟩ := hw1
        have h1 : wr.heap.size ≤ wd.heap.size := HGd1.out.size
        have h2 := HB.out.2
        refine ⟨two_below' (HB.out.1.grown HGd1.out (by omega) (by simp)) ht3 HDg.out (fun q hq => ?_) (by omega), by have := ht3.size; omega⟩
        rcases HR2.out with rfl | ⟨q2, e2, hq2⟩
        · have := HRB.out q hq; omega
        · rw [e2] at hq
          injection hq with hq
          have := HBB.out
          omega)
      clear hw1 e0 e1 e2 e3 hbit
      go_wp2_with fail
      go_roundw
      case rel => exact ⟨k + 1, by omega, by go_num, HW1, HB1⟩
      case measure => simp [intOf]; omega
    · obtain rfl : k = m := by omega
      go_wp2_with fail
      go_ret
      exact ⟨rfl, HW.out⟩
end Go.Proofs.Ytbgechfmbogbpaa
