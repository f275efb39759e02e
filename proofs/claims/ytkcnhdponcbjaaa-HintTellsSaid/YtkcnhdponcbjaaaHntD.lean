/-
  hint.encoded's closures: a number of n bits, and a long number, into the writer.
-/
import Derived.Test.YtkcnhdponcbjaaaHntA
import Derived.Test.YtkcnhdponcbjaaaBitP
import Derived.Test.YtkcnhdponcbjaaaGive
namespace Go.Proofs.Ytkcnhdponcbjaaa
open Go.RowKit Bt Hnt

/-- What the writer g holds behind calls on it, the world w before them. -/
def WroteS (B : Nat) (w : World) (g : Nat) (r : Option Nat) (st : St) (w' : World) : Prop := Wrote 89 B w g r st.1 st.2.1 st.2.2 w'
def WrS (B : Nat) (w : World) (g : Nat) (r : Option Nat) (st : St) : Prop := Wr 89 B w g r st.1 st.2.1 st.2.2
theorem below_grown {w w' : World} (h : Below w.heap.size w w') : w.grownBy w' none := ⟨h.os, h.tape, h.output, h.size, fun k hk _ => h.block k hk⟩
theorem WroteS.more {B : Nat} {w w1 w2 : World} {g : Nat} {r : Option Nat} {st : St} (h : WroteS B w g r st w1) (hb : Below w1.heap.size w1 w2) : WroteS B w g r st w2 := by
  obtain ⟨r', hr, hw, ht⟩ := h
  exact ⟨r', hr, hw.grown (below_grown hb) (by simp) (by cases r' <;> simp), ht.grown (below_grown hb) (Or.inr (Or.inl rfl))⟩
theorem WroteS.then_ {B : Nat} {w w1 w2 : World} {g : Nat} {r r1 : Option Nat} {_st st' : St} (hr : r1 = r ∨ ∃ k, r1 = some k ∧ w.heap.size ≤ k) (ht : Two w w1 g r) (h : WroteS B w1 g r1 st' w2) : WroteS B w g r st' w2 := Wrote.then hr ht h
theorem WroteS.blk {B : Nat} {w w1 : World} {g b : Nat} {st : St} {t : TypeId} {cs : Array Value} (h : WroteS B w g none st w1) (hb : Blk w b t cs) (h1 : b ≠ g) : Blk w1 b t cs := by
  obtain ⟨_, _, _, ht⟩ := h
  exact ht.blk hb h1 (by simp)
theorem WroteS.size {B : Nat} {w w1 : World} {g : Nat} {r : Option Nat} {st : St} (h : WroteS B w g r st w1) : w.heap.size ≤ w1.heap.size := by
  obtain ⟨_, _, _, ht⟩ := h
  exact ht.size
/-- The function value that writes a number. -/
def putV (b : Nat) : Value := .func (.func 40) #[] #[.pointer (some ⟨b, 0, none⟩)]
def longV (b : Nat) : Value := .func (.func 43) #[] #[.pointer (some ⟨b, 0, none⟩)]

set_option maxHeartbeats 1000000 in
theorem upon_ok (w : World) : Calls Try.prog 41 #[.int .i64 0] w fun e w' => e = .returned (.tuple #[]) ∧ w = w' := by
  go_enter Try.func41, Try.ntmps41
  go_wp2_with fail
  go_end0
  exact ⟨rfl, rfl⟩

set_option maxRecDepth 100000 in
set_option maxHeartbeats 2000000 in
theorem hput_any (B g b : Nat) (st : St) (v n : Int) (W w : World) (hb : Blk w b 63 #[.pointer (some ⟨g, 0, none⟩)]) (hB : B ≤ W.heap.size) (h : WroteS B W g none st w) (hg : good st) (hl : st.1.length ≤ 900000)
    (hv : 0 ≤ v) (hn : 0 ≤ n) (hn2 : n ≤ 24) (hlt : v < 2 ^ n.toNat) :
    Calls Try.prog 40 #[.int .i64 v, .int .i64 n, .pointer (some ⟨b, 0, none⟩)] w fun e w' => e = .returned (.tuple #[]) ∧ WroteS B W g none (put st v n) w' := by
  obtain ⟨r, hr, hw, ht⟩ := h
  have hbad := wbad_in hg.2 hv hn hn2 hlt
  have HP := Lib.hid (whigh_any B g r st.1 st.2.1 st.2.2 v n w hl (Nat.le_trans hB ht.size) hw hg.1)
  have hE : wrE st.2.2 v n 2 = 0 := by unfold wrE; rw [hbad]; rfl
  unfold Put at HP
  rw [hE] at HP
  have HR := Lib.hid hr
  have HT := Lib.hid ht
  have c0 := hb.cell 0
  simp only [List.getElem?_toArray, List.getElem?_cons_zero] at c0
  clear hr ht hw hb hE hbad hg hv hlt
  go_enter Try.func40, Try.ntmps40
  go_wp2_with fail
  refine HP.out.mono ?_
  rintro e w1 ⟨rfl, hw⟩
  have HW := Lib.hid (show WroteS B W g none (put st v n) w1 from Wrote.then HR.out HT.out hw)
  clear hw
  go_wp2_with fail
  refine (upon_ok _).mono ?_
  rintro e w2 ⟨rfl, rfl⟩
  go_wp2_with fail
  go_end0
  exact ⟨rfl, HW.out⟩

set_option maxRecDepth 100000 in
set_option maxHeartbeats 2000000 in
theorem hlong_any (B g b c : Nat) (st : St) (v : Int) (W w : World) (hW : Blk W b 63 #[.pointer (some ⟨g, 0, none⟩)]) (hc : Blk W c 66 #[putV b]) (hbg : b ≠ g) (hcg : c ≠ g) (hB : B ≤ W.heap.size)
    (h : WroteS B W g none st w) (hg : good st) (hl : st.1.length ≤ 800000) (hv : 0 ≤ v) (hv2 : v ≤ 1048576) :
    Calls Try.prog 43 #[.int .i64 v, .pointer (some ⟨c, 0, none⟩)] w fun e w' => e = .returned (.tuple #[]) ∧ WroteS B W g none (putLong st v) w' := by
  have e16 : (2 : Int) ^ (16 : Int).toNat = 65536 := rfl
  have P1 := Lib.hid (hput_any B g b st (v / 65536) 16 W w (h.blk hW hbg) hB h hg (by omega) (by omega) (by omega) (by omega) (by rw [e16]; omega))
  have hl2 := put_len st (v / 65536) 16
  have P2 := Lib.hid (fun (w1 : World) (h1 : WroteS B W g none (put st (v / 65536) 16) w1) => hput_any B g b (put st (v / 65536) 16) (v % 65536) 16 W w1 (h1.blk hW hbg) hB h1 (good_put hg (by omega) (by omega) (by omega) (by rw [e16]; omega)) (by omega) (by omega) (by omega) (by omega) (by rw [e16]; omega))
  have HC := Lib.hid (fun (w1 : World) (st1 : St) (h1 : WroteS B W g none st1 w1) => (h1.blk hc hcg).cell 0)
  have c0 := HC.out w st h
  simp only [List.getElem?_toArray, List.getElem?_cons_zero] at c0
  unfold putV at c0
  obtain ⟨x, hx⟩ : ∃ x, v / 65536 = x := ⟨_, rfl⟩
  obtain ⟨y, hy⟩ : ∃ y, v % 65536 = y := ⟨_, rfl⟩
  have a1 : bits .and .i64 v 65535 = y := by
    obtain ⟨k, rfl⟩ : ∃ k : Nat, v = (k : Int) := ⟨v.toNat, by omega⟩
    have h1 : k &&& 65535 = k % 65536 := Nat.and_two_pow_sub_one_eq_mod k 16
    refine (i64_and_nat k 65535 (by omega) (by omega)).trans ?_
    rw [h1]
    omega
  have HPL := Lib.hid (show putLong st v = put (put st x 16) y 16 by rw [← hx, ← hy]; rfl)
  rw [hx] at P1 P2
  rw [hy] at P2
  clear hW hc hg hl hl2 h hy
  go_enter Try.func43, Try.ntmps43
  go_wp2_with fail
  refine P1.out.mono ?_
  rintro e w1 ⟨rfl, hw⟩
  have HW := Lib.hid hw
  clear hw c0
  have c0 := HC.out w1 _ HW.out
  simp only [List.getElem?_toArray, List.getElem?_cons_zero] at c0
  unfold putV at c0
  go_wp2_with fail
  refine (P2.out w1 HW.out).mono ?_
  rintro e w2 ⟨rfl, hw⟩
  have HW2 := Lib.hid hw
  clear hw c0
  go_wp2_with fail
  go_end0
  exact ⟨rfl, by rw [HPL.out]; exact HW2.out⟩
end Go.Proofs.Ytkcnhdponcbjaaa
