/-
  hint's lives: the results that the document fixes.
-/
import Derived.Test.YtkcnhdponcbjaaaHntL
import Derived.Test.YtkcnhdponcbjaaaHntO
import Derived.Deep.RegionHeld3
namespace Go.Proofs.Ytkcnhdponcbjaaa
open Go.RowKit Bt Hnt

def tA : ByteArray := ⟨#[0, 0, 0, 1, 0, 0, 0, 3, 0, 0, 0, 100, 0, 0, 0, 20, 0, 0, 0, 0, 0, 0]⟩
def tB : ByteArray := ⟨#[0, 0, 0, 2, 0, 0, 0, 3, 0, 0, 0, 100, 0, 0, 0, 20, 0, 1, 0, 0, 0, 2, 64, 32]⟩
theorem text_c (A : Option Addr) (cap : Nat) (l : List H3) (E : Int) (R : ByteArray) (n : Nat) (w : World) (h : HAt w A l) (hn : l.length = n) (hl : n ≤ 1000000000) (hE : textE l = E) (hR : (⟨(textB l).toArray⟩ : ByteArray) = R) :
    Calls Try.prog 9 #[.slice A n cap] w fun e w' => e = .returned (.tuple #[.string R, .int .i64 E]) ∧ Below w.heap.size w w' := by
  subst hn hE hR
  exact text_any A cap l w h hl
theorem read_c (s : ByteArray) (E : Int) (l : List H3) (n : Nat) (w : World) (hs : s.size ≤ 1000000000) (hE : readE s = E) (hL : readL s = l) (hn : l.length = n) :
    Calls Try.prog 11 #[.string s] w fun e w' => (∃ A cap, e = .returned (.tuple #[.slice A n cap, .int .i64 E]) ∧ HAt w' A l) ∧ Below w.heap.size w w' := by
  subst hE hL hn
  exact read_any s w hs
theorem need_c (n : Int) (k : Nat) (w : World) (h1 : -9223372036854775808 ≤ n) (h0 : n ≤ 9223372036854775807) (hk : needN n = k) :
    Calls Try.prog 14 #[.int .i64 n] w fun e w' => e = .returned (.int .i64 (k : Int)) ∧ w = w' := by
  subst hk
  exact need_any n w h1 h0
def lA : List H3 := [(3, 100, 20)]
def lB : List H3 := [(3, 100, 20), (4, 100, 22)]
theorem textE_A : textE lA = 0 := by decide +kernel
theorem textE_B : textE lB = 0 := by decide +kernel
theorem textB_A : textB lA = [0, 0, 0, 1, 0, 0, 0, 3, 0, 0, 0, 100, 0, 0, 0, 20, 0, 0, 0, 0, 0, 0] := by decide +kernel
theorem textB_B : textB lB = [0, 0, 0, 2, 0, 0, 0, 3, 0, 0, 0, 100, 0, 0, 0, 20, 0, 1, 0, 0, 0, 2, 64, 32] := by decide +kernel
theorem textE_big : textE [(8192, 0, 0)] = 2 := by decide +kernel
theorem textB_big : textB [(8192, 0, 0)] = [] := by decide +kernel
theorem hat_one {w : World} {b : Nat} {t : TypeId} {x y z : Int} (h : Blk w b t #[.int .i64 x, .int .i64 y, .int .i64 z]) : HAt w (some ⟨b, 0, none⟩) [(x, y, z)] := fun j hj => by
  obtain rfl : j = 0 := by simpa using hj
  exact ⟨b, 0, rfl, h.lt, (h.cell _).trans rfl, (h.cell _).trans rfl, (h.cell _).trans rfl⟩
theorem hat_two {w : World} {b : Nat} {t : TypeId} {x y z x2 y2 z2 : Int} (h : Blk w b t #[.int .i64 x, .int .i64 y, .int .i64 z, .int .i64 x2, .int .i64 y2, .int .i64 z2]) : HAt w (some ⟨b, 0, none⟩) [(x, y, z), (x2, y2, z2)] := fun j hj => by
  have hj' : j < 2 := hj
  rcases (show j = 0 ∨ j = 1 by omega) with rfl | rfl
  · exact ⟨b, 0, rfl, h.lt, (h.cell _).trans rfl, (h.cell _).trans rfl, (h.cell _).trans rfl⟩
  · exact ⟨b, 0, rfl, h.lt, (h.cell _).trans rfl, (h.cell _).trans rfl, (h.cell _).trans rfl⟩
theorem read_B : readE tB = 0 ∧ readL tB = lB := read_back textE_B (by rw [textB_B]; rfl)
theorem read_B0 : readE ⟨#[0, 0, 0, 2, 0, 0, 0, 3, 0, 0, 0, 100, 0, 0, 0, 20, 0, 1, 0, 0, 0, 2, 64, 32, 0]⟩ = 32 := read_more (rest := [0]) textE_B (by rw [textB_B]; rfl) (by simp)
theorem read_none : readE ⟨#[]⟩ = 32 := read_less (rest := [0, 0, 0, 1, 0, 0, 0, 3, 0, 0, 0, 100, 0, 0, 0, 20, 0, 0, 0, 0, 0, 0]) textE_A (by rw [textB_A]; rfl) (by simp)
theorem read_A21 : readE ⟨#[0, 0, 0, 1, 0, 0, 0, 3, 0, 0, 0, 100, 0, 0, 0, 20, 0, 0, 0, 0, 0]⟩ = 32 := read_less (rest := [0]) textE_A (by rw [textB_A]; rfl) (by simp)
theorem eB0 : tB ++ ⟨#[0]⟩ = ⟨#[0, 0, 0, 2, 0, 0, 0, 3, 0, 0, 0, 100, 0, 0, 0, 20, 0, 1, 0, 0, 0, 2, 64, 32, 0]⟩ := by decide +kernel
theorem eA21 : tA.extract 0 21 = ⟨#[0, 0, 0, 1, 0, 0, 0, 3, 0, 0, 0, 100, 0, 0, 0, 20, 0, 0, 0, 0, 0]⟩ := by decide +kernel
theorem read_B0' : readE (tB ++ ⟨#[0]⟩) = 32 := by rw [eB0]; exact read_B0
theorem read_A21' : readE (tA.extract 0 21) = 32 := by rw [eA21]; exact read_A21
theorem sz_B0 : (tB ++ ⟨#[0]⟩).size ≤ 1000000000 := by rw [eB0]; decide
theorem sz_A21 : (tA.extract 0 21).size ≤ 1000000000 := by rw [eA21]; decide
theorem no_L {s : ByteArray} (h : readE s = 32) : readL s = [] := readL_no (by rw [h]; decide)

theorem step_al {N : Nat} {w w1 w2 : World} (h : Below N w w1) (hs : N ≤ w1.heap.size) (o : Obj) (hb : Below (w1.alloc o).heap.size (w1.alloc o) w2) : Below N w w2 ∧ N ≤ w2.heap.size := by
  have e : (w1.alloc o).heap.size = w1.heap.size + 1 := World.size_alloc w1 o
  have h2 := hb.size
  exact ⟨(h.alloc hs o).trans (hb.mono (by omega)), by omega⟩
theorem step_no {N : Nat} {w w1 w2 : World} (h : Below N w w1) (hs : N ≤ w1.heap.size) (hb : Below w1.heap.size w1 w2) : Below N w w2 ∧ N ≤ w2.heap.size :=
  ⟨h.trans (hb.mono hs), Nat.le_trans hs hb.size⟩

set_option maxRecDepth 100000 in
set_option maxHeartbeats 8000000 in
theorem hlives_any (w : World) : Calls Try.prog 8 #[] w fun e w' => e = .returned (.bool true) ∧ Below w.heap.size w w' := by
  obtain ⟨N, hN⟩ : ∃ N, w.heap.size = N := ⟨_, rfl⟩
  have HS := Lib.hid hN
  rw [hN]
  clear hN
  have PX0 := Lib.hid (fun W : World => read_c (tB ++ ⟨#[0]⟩) 32 [] 0 W sz_B0 read_B0' (no_L read_B0') rfl)
  obtain ⟨X0, hX0⟩ : ∃ X0, tB ++ (⟨#[0]⟩ : ByteArray) = X0 := ⟨_, rfl⟩
  rw [hX0] at PX0
  have PX1 := Lib.hid (fun W : World => read_c (tA.extract 0 21) 32 [] 0 W sz_A21 read_A21' (no_L read_A21') rfl)
  obtain ⟨X1, hX1⟩ : ∃ X1, tA.extract 0 21 = X1 := ⟨_, rfl⟩
  rw [hX1] at PX1
  have a22 : (((tA.size : Nat) : Int) != 22) = false := rfl
  have b24 : ((tB.size : Nat) : Int) = 24 := rfl
  have al : tA.toList = [0, 0, 0, 1, 0, 0, 0, 3, 0, 0, 0, 100, 0, 0, 0, 20, 0, 0, 0, 0, 0, 0] := by rw [Lib.toList_data]; decide +kernel
  have bl : (tB.extract 16 tB.size).toList = [0, 1, 0, 0, 0, 2, 64, 32] := by rw [Lib.toList_data]; decide +kernel
  have HB0 := Lib.hid (show Below N w w ∧ N ≤ w.heap.size from ⟨Below.refl _ _, by rw [HS.out]; exact Nat.le_refl _⟩)
  go_enter Try.func8, Try.ntmps8
  go_wp2_with fail
  refine (text_c _ 1 lA 0 tA 1 _ (hat_one (Blk.new w _ _)) rfl (by decide) textE_A (by rw [textB_A]; rfl)).mono ?_
  rintro e w1 ⟨rfl, hb⟩
  have HB1 := Lib.hid (step_al HB0.out.1 HB0.out.2 _ hb)
  clear hb
  go_wp2_with fail
  refine (text_c _ 2 lB 0 tB 2 _ (hat_two (Blk.new w1 _ _)) rfl (by decide) textE_B (by rw [textB_B]; rfl)).mono ?_
  rintro e w2 ⟨rfl, hb⟩
  have HB2 := Lib.hid (step_al HB1.out.1 HB1.out.2 _ hb)
  clear hb
  go_wp2_with fail
  refine (text_c _ 0 [] 1 ⟨#[]⟩ 0 _ (HAt.nil _ _) rfl (by decide) rfl rfl).mono ?_
  rintro e w3 ⟨rfl, hb⟩
  have HB3 := Lib.hid (step_no HB2.out.1 HB2.out.2 hb)
  clear hb
  go_wp2_with fail
  refine (text_c _ 1 [(8192, 0, 0)] 2 ⟨#[]⟩ 1 _ (hat_one (Blk.new w3 _ _)) rfl (by decide) textE_big (by rw [textB_big])).mono ?_
  rintro e w4 ⟨rfl, hb⟩
  have HB4 := Lib.hid (step_al HB3.out.1 HB3.out.2 _ hb)
  clear hb
  go_wp2_with fail
  refine (read_c tB 0 lB 2 _ (by show 24 ≤ 1000000000; omega) read_B.1 read_B.2 rfl).mono ?_
  rintro e w5 ⟨⟨A5, c5, rfl, hA5⟩, hb⟩
  have HB5 := Lib.hid (step_no HB4.out.1 HB4.out.2 hb)
  have HA5 := Lib.hid hA5
  clear hb hA5
  have bs : ¬ 9223372036854775807 < tB.size + 1 := by rw [show tB.size = 24 from rfl]; omega
  go_wp2_with fail
  refine (PX0.out _).mono ?_
  rintro e w6 ⟨⟨A6, c6, rfl, _⟩, hb⟩
  have HB6 := Lib.hid (step_no HB5.out.1 HB5.out.2 hb)
  have HA6 := Lib.hid (HA5.out.below hb)
  clear hb
  go_wp2_with fail
  refine (read_c ⟨#[]⟩ 32 [] 0 _ (by show 0 ≤ 1000000000; omega) read_none (no_L read_none) rfl).mono ?_
  rintro e w7 ⟨⟨A7, c7, rfl, _⟩, hb⟩
  have HB7 := Lib.hid (step_no HB6.out.1 HB6.out.2 hb)
  have HA7 := Lib.hid (HA6.out.below hb)
  clear hb
  go_wp2_with fail
  refine (PX1.out _).mono ?_
  rintro e w8 ⟨⟨A8, c8, rfl, _⟩, hb⟩
  obtain ⟨b5, off5, rfl, _, x0, x1, x2⟩ := HA7.out.below hb 1 (by decide)
  have HB8 := Lib.hid (step_no HB7.out.1 HB7.out.2 hb).1
  have x0 : w8.cell? ⟨b5, off5 + 1 * 3, none⟩ = some (.int .i64 4) := x0
  have x1 : w8.cell? ⟨b5, off5 + 1 * 3 + 1, none⟩ = some (.int .i64 100) := x1
  have x2 : w8.cell? ⟨b5, off5 + 1 * 3 + 2, none⟩ = some (.int .i64 22) := x2
  simp only [Nat.one_mul, Nat.add_assoc, Nat.reduceAdd] at x0 x1 x2
  clear hb
  go_wp2_with fail
  refine (need_c (0) 0 _ (by decide) (by decide) (by decide +kernel)).mono ?_
  rintro e wz ⟨rfl, rfl⟩
  go_wp2_with fail
  refine (need_c (1) 1 _ (by decide) (by decide) (by decide +kernel)).mono ?_
  rintro e wz ⟨rfl, rfl⟩
  go_wp2_with fail
  refine (need_c (255) 8 _ (by decide) (by decide) (by decide +kernel)).mono ?_
  rintro e wz ⟨rfl, rfl⟩
  go_wp2_with fail
  refine (need_c (256) 9 _ (by decide) (by decide) (by decide +kernel)).mono ?_
  rintro e wz ⟨rfl, rfl⟩
  go_wp2_with fail
  refine (need_c (-1) 0 _ (by decide) (by decide) (by decide +kernel)).mono ?_
  rintro e wz ⟨rfl, rfl⟩
  go_wp2_with fail
  go_ret
  exact ⟨rfl, HB8.out⟩
end Go.Proofs.Ytkcnhdponcbjaaa
