/-
  TopHints: hints survive encoding and decoding, and the encoding is unique, whatever the list, the place and the byte are.
-/
import Derived.Test.YtkcnhdponcbjaaaHntBk
import Derived.Deep.RegionHeldLaw
namespace Go.Proofs.Ytkcnhdponcbjaaa
open Go.ChangeShapes Go.WideShapes Go.ChangeAt Go.RowKit Go.Deep Bt Hnt

def tC : ByteArray := ⟨#[0, 0, 0, 1, 0, 0, 0, 1, 0, 0, 0, 2, 0, 0, 0, 3, 0, 0, 0, 0, 0, 0]⟩
def lC : List H3 := [(1, 2, 3)]
theorem textE_C : textE lC = 0 := by decide +kernel
theorem textB_C : textB lC = [0, 0, 0, 1, 0, 0, 0, 1, 0, 0, 0, 2, 0, 0, 0, 3, 0, 0, 0, 0, 0, 0] := by decide +kernel
theorem read_C : readE tC = 0 ∧ readL tC = lC := read_back textE_C (by rw [textB_C]; rfl)

theorem tC_size : tC.size = 22 := rfl
theorem read_Cw (W : World) : Calls Try.prog 11 #[.string tC] W fun e w' => (∃ A cap, e = .returned (.tuple #[.slice A 1 cap, .int .i64 0]) ∧ HAt w' A lC) ∧ Below W.heap.size W w' :=
  read_c tC 0 lC 1 W (by rw [tC_size]; decide) read_C.1 read_C.2 rfl

theorem xor_all : ∀ x, x < 256 → bits .xor .u8 ((x : Nat) : Int) 0 = ((x : Nat) : Int) := by decide +kernel
theorem xor_zero (x : UInt8) : bits .xor .u8 (x.toNat : Int) 0 = (x.toNat : Int) := xor_all _ x.toNat_lt
theorem xor_byte (x : UInt8) (b : Int) : ∃ y : UInt8, bits .xor .u8 (x.toNat : Int) b = (y.toNat : Int) := by
  have h1 := bits_lo_u8 .xor (x.toNat : Int) b
  have h2 := bits_hi_u8 .xor (x.toNat : Int) b
  refine ⟨UInt8.ofNat (bits .xor .u8 (x.toNat : Int) b).toNat, ?_⟩
  rw [UInt8.toNat_ofNat']
  omega
theorem conv_one (w : World) (x : Int) (a : UInt8) (hx : (a.toNat : Int) = x) :
    (convert 37 9 (.slice (some ⟨w.heap.size, 0, none⟩) 1 1)).run Try.prog (w.alloc (.cells #[.int .u8 x] 5)).drew = .ok (.string ⟨#[a]⟩) (w.alloc (.cells #[.int .u8 x] 5)).drew := by
  subst hx
  exact run_string_of_row (base := 0) (l := [a]) (World.ownsRow_lit w #[.int .u8 (a.toNat : Int)] 1 (Nat.zero_le _) (by unfold maxLen; omega) rfl).drew
theorem cut_three (R : ByteArray) (K : Nat) (h : K < R.size) : R.extract 0 K ++ ⟨#[R[K]]⟩ ++ R.extract (K + 1) R.size = R := by
  have e : R.data.toList.length = R.size := by simp
  have hK : K < R.data.toList.length := by omega
  have h1 : (R.extract 0 K ++ ⟨#[R[K]]⟩ ++ R.extract (K + 1) R.size).data.toList = R.data.toList := by
    rw [ByteArray.data_append, Array.toList_append, ByteArray.data_append, Array.toList_append, ByteArray.data_extract, ByteArray.data_extract, Array.toList_extract, Array.toList_extract]
    show (R.data.toList.drop 0).take (K - 0) ++ [R.data.toList[K]] ++ (R.data.toList.drop (K + 1)).take (R.size - (K + 1)) = R.data.toList
    rw [List.take_of_length_le (l := R.data.toList.drop (K + 1)) (by rw [List.length_drop]; omega), List.drop_zero, Nat.sub_zero, List.append_assoc, List.singleton_append, List.getElem_cons_drop, List.take_append_drop]
  exact ByteArray.ext (Array.toList_inj.1 h1)
theorem wf_i64 {n : Int} (h : (Lit.int .i64 n).wf = true) : -9223372036854775808 ≤ n ∧ n ≤ 9223372036854775807 := by
  simp [Lit.wf, IntKind.min, IntKind.max, IntKind.signed, IntKind.bits] at h
  exact h
theorem wf_u8 {n : Int} (h : (Lit.int .u8 n).wf = true) : 0 ≤ n ∧ n < 256 := by
  simp [Lit.wf, IntKind.min, IntKind.max, IntKind.signed, IntKind.bits] at h
  omega
theorem step_dr {N : Nat} {w W : World} (h : Below N w W ∧ N ≤ W.heap.size) (o : Obj) : Below N w (W.alloc o).drew ∧ N ≤ (W.alloc o).drew.heap.size :=
  ⟨(h.1.alloc h.2 o).drew, by
    show N ≤ (W.alloc o).heap.size
    rw [World.size_alloc]
    omega⟩
theorem hat_al {w w1 : World} {A : Option Addr} {l : List H3} {o : Obj} (h : HAt w A l) (hb : Below (w.alloc o).heap.size (w.alloc o) w1) : HAt w1 A l := by
  have h1 : HAt (w.alloc o) A l := h.below ((Below.refl _ w).alloc (Nat.le_refl _) o)
  exact h1.below hb

set_option maxRecDepth 100000 in
set_option maxHeartbeats 4000000 in
theorem tops_any (A : Option Addr) (cap : Nat) (l : List H3) (a b : Int) (w : World) (h : HAt w A l) (ha : -9223372036854775808 ≤ a) (ha2 : a ≤ 9223372036854775807) (hb0 : 0 ≤ b) (hb2 : b < 256) :
    Calls Try.prog 7 #[.slice A l.length cap, .int .i64 a, .int .u8 b] w fun e w' => e = .returned (.bool true) ∧ Below w.heap.size w w' := by
  obtain ⟨N, hN⟩ : ∃ N, w.heap.size = N := ⟨_, rfl⟩
  rw [hN]
  have HS := Lib.hid hN
  have HA := Lib.hid h
  obtain ⟨n, hn⟩ : ∃ n, l.length = n := ⟨_, rfl⟩
  have HNl := Lib.hid hn
  rw [hn]
  have HB0 := Lib.hid (show Below N w w ∧ N ≤ w.heap.size from ⟨Below.refl _ _, by rw [HS.out]; exact Nat.le_refl _⟩)
  clear hn h hN
  by_cases hz : 100 < n
  · have hz' : (100 : Int) < (n : Int) := Int.ofNat_lt.2 hz
    clear hz
    go_enter Try.func7, Try.ntmps7
    go_wp2_with fail
    refine (text_c _ 1 lC 0 tC 1 _ (hat_one (Blk.new w _ _)) rfl (by decide) textE_C (by rw [textB_C]; rfl)).mono ?_
    rintro e w1 ⟨rfl, hb⟩
    have HB1 := Lib.hid (step_al HB0.out.1 HB0.out.2 _ hb)
    have HA1 := Lib.hid (hat_al HA.out hb)
    clear hb
    go_wp2_with fail
    refine (read_Cw _).mono ?_
    rintro e w2 ⟨⟨A2, c2, rfl, hA2⟩, hb⟩
    have HB2 := Lib.hid (step_no HB1.out.1 HB1.out.2 hb)
    have HA2 := Lib.hid (HA1.out.below hb)
    obtain ⟨b5, off5, rfl, _, x0, x1, x2⟩ := hA2 0 (by decide)
    have x0 : w2.cell? ⟨b5, off5, none⟩ = some (.int .i64 1) := x0
    have x1 : w2.cell? ⟨b5, off5 + 1, none⟩ = some (.int .i64 2) := x1
    have x2 : w2.cell? ⟨b5, off5 + 2, none⟩ = some (.int .i64 3) := x2
    clear hb hA2
    go_wp2_with fail
    clear x0 x1 x2
    go_ret
    exact ⟨rfl, HB2.out.1⟩
  by_cases hneg : a < 0
  · have hz' : ¬ (100 : Int) < (n : Int) := fun e => hz (Int.ofNat_lt.1 e)
    clear hz
    go_enter Try.func7, Try.ntmps7
    go_wp2_with fail
    refine (text_c _ 1 lC 0 tC 1 _ (hat_one (Blk.new w _ _)) rfl (by decide) textE_C (by rw [textB_C]; rfl)).mono ?_
    rintro e w1 ⟨rfl, hb⟩
    have HB1 := Lib.hid (step_al HB0.out.1 HB0.out.2 _ hb)
    have HA1 := Lib.hid (hat_al HA.out hb)
    clear hb
    go_wp2_with fail
    refine (read_Cw _).mono ?_
    rintro e w2 ⟨⟨A2, c2, rfl, hA2⟩, hb⟩
    have HB2 := Lib.hid (step_no HB1.out.1 HB1.out.2 hb)
    have HA2 := Lib.hid (HA1.out.below hb)
    obtain ⟨b5, off5, rfl, _, x0, x1, x2⟩ := hA2 0 (by decide)
    have x0 : w2.cell? ⟨b5, off5, none⟩ = some (.int .i64 1) := x0
    have x1 : w2.cell? ⟨b5, off5 + 1, none⟩ = some (.int .i64 2) := x1
    have x2 : w2.cell? ⟨b5, off5 + 2, none⟩ = some (.int .i64 3) := x2
    clear hb hA2
    go_wp2_with fail
    clear x0 x1 x2
    go_ret
    exact ⟨rfl, HB2.out.1⟩
  have hz' : ¬ (100 : Int) < (n : Int) := fun e => hz (Int.ofNat_lt.1 e)
  obtain ⟨E, hE⟩ : ∃ E, textE l = E := ⟨_, rfl⟩
  obtain ⟨R, hR⟩ : ∃ R : ByteArray, ⟨(textB l).toArray⟩ = R := ⟨_, rfl⟩
  have PT := Lib.hid (fun (W : World) (h : HAt W A l) => text_c A cap l E R n W h HNl.out (by omega) hE hR)
  by_cases h0 : E = 0
  · subst h0
    have hB := backs_of hE (bytes_of hR)
    obtain ⟨s1, s2⟩ := hB.size
    have PR := Lib.hid (fun W : World => read_c R 0 l n W (by omega) hB.whole.1 hB.whole.2 HNl.out)
    have HBk := Lib.hid hB
    clear hz hE hR hB
    go_enter Try.func7, Try.ntmps7
    go_wp2_with fail
    refine (text_c _ 1 lC 0 tC 1 _ (hat_one (Blk.new w _ _)) rfl (by decide) textE_C (by rw [textB_C]; rfl)).mono ?_
    rintro e w1 ⟨rfl, hb⟩
    have HB1 := Lib.hid (step_al HB0.out.1 HB0.out.2 _ hb)
    have HA1 := Lib.hid (hat_al HA.out hb)
    clear hb
    go_wp2_with fail
    refine (read_Cw _).mono ?_
    rintro e w2 ⟨⟨A2, c2, rfl, hA2⟩, hb⟩
    have HB2 := Lib.hid (step_no HB1.out.1 HB1.out.2 hb)
    have HA2 := Lib.hid (HA1.out.below hb)
    obtain ⟨b5, off5, rfl, _, x0, x1, x2⟩ := hA2 0 (by decide)
    have x0 : w2.cell? ⟨b5, off5, none⟩ = some (.int .i64 1) := x0
    have x1 : w2.cell? ⟨b5, off5 + 1, none⟩ = some (.int .i64 2) := x1
    have x2 : w2.cell? ⟨b5, off5 + 2, none⟩ = some (.int .i64 3) := x2
    clear hb hA2
    go_wp2_with fail
    clear x0 x1 x2
    refine (PT.out w2 HA2.out).mono ?_
    rintro e w3 ⟨rfl, hb⟩
    have HB3 := Lib.hid (step_no HB2.out.1 HB2.out.2 hb)
    have HA3 := Lib.hid (HA2.out.below hb)
    clear hb
    go_wp2_with fail
    refine (PR.out _).mono ?_
    rintro e w4 ⟨⟨A4, c4, rfl, hA4⟩, hb⟩
    have HB4 := Lib.hid (step_no HB3.out.1 HB3.out.2 hb)
    have HA4 := Lib.hid (HA3.out.below hb)
    have HX4 := Lib.hid hA4
    clear hb hA4
    go_wp2_with fail
    go_loopw [83] (fun i wr => ∃ k m : Nat, k ≤ n ∧ i = .int .i64 (k : Int) ∧ wr = w4.drewN m) (fun i _ => n - (intOf i).toNat)
    case atStart => exact ⟨0, 0, by omega, rfl, rfl⟩
    case round =>
      obtain ⟨k, m, hk, rfl, rfl⟩ := hrel
      by_cases hlt : k < n
      · have hkl : k < l.length := by rw [HNl.out]; exact hlt
        obtain ⟨b1, off1, ha1, _, x0, x1, x2⟩ := HX4.out k hkl
        obtain ⟨b2, off2, ha2, _, y0, y1, y2⟩ := HA4.out k hkl
        subst ha1 ha2
        have i0 : (0 : Int) ≤ (k : Int) := by omega
        have i1 : (k : Int) < (n : Int) := by omega
        go_wp2_with fail
        go_quiet (fail)
        clear x0 x1 x2 y0 y1 y2
        go_wp2_with fail
        go_roundw
        case rel => exact ⟨k + 1, m + nq, by omega, by go_num, rfl⟩
        case measure => simp [intOf]; omega
      · obtain rfl : k = n := by omega
        have HB5 := Lib.hid (show Below N w (w4.drewN m) ∧ N ≤ (w4.drewN m).heap.size from ⟨⟨HB4.out.1.os, HB4.out.1.tape, HB4.out.1.output, HB4.out.1.size, HB4.out.1.block⟩, HB4.out.2⟩)
        obtain ⟨W, hW⟩ : ∃ W, w4.drewN m = W := ⟨_, rfl⟩
        rw [hW] at HB5 ⊢
        clear hW HX4 HA4 HB4 HB3 HB2 HB1 hk hlt
        obtain ⟨K, hK, hK2⟩ : ∃ K : Nat, a.tmod (R.size : Int) = (K : Int) ∧ K < R.size := by
          refine ⟨(a.tmod (R.size : Int)).toNat, ?_, ?_⟩
          · have := Int.tmod_nonneg (R.size : Int) (show 0 ≤ a by omega)
            omega
          · have h1 := Int.tmod_lt_of_pos a (show (0 : Int) < (R.size : Int) by omega)
            have := Int.tmod_nonneg (R.size : Int) (show 0 ≤ a by omega)
            omega
        have k0 : (0 : Int) ≤ (K : Int) := by omega
        have k1 : (K : Int) < (R.size : Int) := by omega
        have k2 : (K : Int) ≤ (R.size : Int) := by omega
        have k3 : (K : Int) + 1 ≤ (R.size : Int) := by omega
        have k4 : (0 : Int) ≤ (K : Int) + 1 := by omega
        have k5 : ((K : Int) + 1).toNat = K + 1 := by omega
        have k6 : IntKind.i64.wrap ((K : Int) + 1) = (K : Int) + 1 := by apply IntWalk.i64_in <;> omega
        have rz : ¬ (R.size : Int) = 0 := by omega
        obtain ⟨y, hy⟩ := xor_byte R[K] b
        have hy0 : b = 0 → y = R[K] := fun e => by
          rw [e, xor_zero] at hy
          exact UInt8.toNat_inj.1 (by omega)
        have hconv := conv_one W (bits .xor .u8 (R[K].toNat : Int) b) y hy.symm
        obtain ⟨X1, hX1⟩ : ∃ X1, R.extract 0 K = X1 := ⟨_, rfl⟩
        obtain ⟨X2, hX2⟩ : ∃ X2, R.extract (K + 1) R.size = X2 := ⟨_, rfl⟩
        have z1 : X1.size = K := by rw [← hX1, ByteArray.size_extract]; omega
        have z2 : X2.size = R.size - (K + 1) := by rw [← hX2, ByteArray.size_extract]; omega
        have e1 : ¬ 9223372036854775807 < X1.size + 1 := by omega
        have e2 : ¬ 9223372036854775807 < X1.size + 1 + X2.size := by omega
        have hT0 : b = 0 → X1 ++ ⟨#[y]⟩ ++ X2 = R := fun e => by
          rw [hy0 e, ← hX1, ← hX2]
          exact cut_three R K hK2
        have hTs : (X1 ++ ⟨#[y]⟩ ++ X2).size ≤ 1000000000 := by
          rw [ByteArray.size_append, ByteArray.size_append]
          show X1.size + 1 + X2.size ≤ _
          omega
        have HT0 := Lib.hid hT0
        have HTs := Lib.hid hTs
        clear z1 z2 hy0 hT0 hTs hy
        go_upto_region 20 with fail
        go_region_held_law (fun _ => True) (first | exact trivial) (fail)
        clear hconv e1 e2 hX1 hX2 k4 k5 k6 rz hK
        have HB6 := Lib.hid (step_dr HB5.out (.cells #[.int .u8 (bits .xor .u8 (R[K].toNat : Int) b)] 5))
        obtain ⟨W2, hW2⟩ : ∃ W2, (W.alloc (.cells #[.int .u8 (bits .xor .u8 (R[K].toNat : Int) b)] 5)).drew = W2 := ⟨_, rfl⟩
        obtain ⟨U, hU⟩ : ∃ U, X1 ++ ⟨#[y]⟩ ++ X2 = U := ⟨_, rfl⟩
        rw [hU] at HT0 HTs ⊢
        rw [hW2] at HB6 ⊢
        clear hU hW2 HB5
        by_cases he : readE U = 0
        · obtain ⟨h1, h2, h3⟩ := read_text he
          have hln := decH_len h1
          obtain ⟨m, hm⟩ : ∃ m, readL U = m := ⟨_, rfl⟩
          rw [hm] at h2 h3 hln
          obtain ⟨q, hq⟩ : ∃ q, m.length = q := ⟨_, rfl⟩
          rw [hq] at hln
          have PU := Lib.hid (fun W : World => read_c U 0 m q W HTs.out he hm hq)
          have PV := Lib.hid (fun (A : Option Addr) (cap : Nat) (W : World) (h : HAt W A m) => text_c A cap m 0 U q W h hq (by omega) h2 (by rw [h3]))
          clear he h1 h2 h3 hm hln hq HTs HT0
          go_wp2_with fail
          refine (PU.out _).mono ?_
          rintro e w7 ⟨⟨A7, c7, rfl, hA7⟩, hb⟩
          have HB7 := Lib.hid (step_no HB6.out.1 HB6.out.2 hb)
          have PV7 := Lib.hid (PV.out A7 c7 w7 hA7)
          clear hb hA7
          go_wp2_with fail
          refine PV7.out.mono ?_
          rintro e w8 ⟨rfl, hb⟩
          have HB8 := Lib.hid (step_no HB7.out.1 HB7.out.2 hb)
          clear hb
          go_wp2_with fail
          go_ret
          exact ⟨rfl, HB8.out.1⟩
        · have he' := (readE_in U).resolve_left he
          have hbz : ¬ b = 0 := fun e => he (by rw [HT0.out e]; exact HBk.out.whole.1)
          have PU := Lib.hid (fun W : World => read_c U 32 [] 0 W HTs.out he' (no_L he') rfl)
          have hbq : (b != 0) = true := by simpa using hbz
          clear he he' hbz HTs HT0
          go_wp2_with fail
          refine (PU.out _).mono ?_
          rintro e w7 ⟨⟨A7, c7, rfl, _⟩, hb⟩
          have HB7 := Lib.hid (step_no HB6.out.1 HB6.out.2 hb)
          clear hb
          go_wp2_with fail
          go_ret
          exact ⟨rfl, HB7.out.1⟩
  · have hR2 : R = ⟨#[]⟩ := by rw [← hR, textB_no (by rw [hE]; exact h0)]
    subst hR2
    clear hz hE hR
    go_enter Try.func7, Try.ntmps7
    go_wp2_with fail
    refine (text_c _ 1 lC 0 tC 1 _ (hat_one (Blk.new w _ _)) rfl (by decide) textE_C (by rw [textB_C]; rfl)).mono ?_
    rintro e w1 ⟨rfl, hb⟩
    have HB1 := Lib.hid (step_al HB0.out.1 HB0.out.2 _ hb)
    have HA1 := Lib.hid (hat_al HA.out hb)
    clear hb
    go_wp2_with fail
    refine (read_Cw _).mono ?_
    rintro e w2 ⟨⟨A2, c2, rfl, hA2⟩, hb⟩
    have HB2 := Lib.hid (step_no HB1.out.1 HB1.out.2 hb)
    have HA2 := Lib.hid (HA1.out.below hb)
    obtain ⟨b5, off5, rfl, _, x0, x1, x2⟩ := hA2 0 (by decide)
    have x0 : w2.cell? ⟨b5, off5, none⟩ = some (.int .i64 1) := x0
    have x1 : w2.cell? ⟨b5, off5 + 1, none⟩ = some (.int .i64 2) := x1
    have x2 : w2.cell? ⟨b5, off5 + 2, none⟩ = some (.int .i64 3) := x2
    clear hb hA2
    go_wp2_with fail
    clear x0 x1 x2
    refine (PT.out w2 HA2.out).mono ?_
    rintro e w3 ⟨rfl, hb⟩
    have HB3 := Lib.hid (step_no HB2.out.1 HB2.out.2 hb)
    clear hb
    go_wp2_with fail
    go_ret
    exact ⟨rfl, HB3.out.1⟩

/-! ### The row. -/
theorem topHints_laidOut : laidOutB Try.prog = true := by kernel_rfl
theorem topHints_own : ownKnob Try.prog.godebug = none := by kernel_rfl
theorem topHints_types (t : TypeId) (ht : t ∈ Try.f7.params.toList) : Try.prog.readableRec t = true ∧ t < Try.prog.types.size := by
  rw [Try.params7] at ht
  simp only [List.mem_cons, List.not_mem_nil, or_false] at ht
  rcases ht with rfl | rfl | rfl
  · exact ⟨by kernel_rfl, of_decide_eq_true (by kernel_rfl)⟩
  · exact ⟨by kernel_rfl, of_decide_eq_true (by kernel_rfl)⟩
  · exact ⟨by kernel_rfl, of_decide_eq_true (by kernel_rfl)⟩
theorem topHints_fn {H : Type} (ds' : List (DataW H)) (h : ds'.length = Try.f7.params.size) : Rows.topHintsSpec.fn H ds' = { results := [.lit (.bool true)], args := ds' } := by
  have h' : ds'.length = 3 := h.trans (by kernel_rfl)
  match ds', h' with
  | [_, _, _], _ => rfl

set_option maxRecDepth 100000 in
theorem topHints_lifted (os : Os) (started : os.Started) (H : Type) (enc : TypeId × Value → H) :
    ReturnsInHanded {} Try.checked os 7 .any (Rows.topHintsSpec.pre6 enc Try.prog Try.f7 Rows.topHintsRow.domain false) (Rows.topHintsSpec.post enc Try.prog Try.f7 false true false false) := by
  refine returnsInHanded_of_change_shaped (C := Try.checked) topHints_own started (by kernel_rfl) Try.func7
    (ChangeSpec.witness6 (enc := enc) (C := Try.checked) false ⟨#[], #[.slice none 0 0, .int .i64 0, .int .u8 0], []⟩ 8 (by kernel_rfl) (by kernel_rfl) (by kernel_rfl) (by kernel_rfl)) ?_
  intro W base args ds gs before hval0 hW hcnd0 _ hsh _
  have hval : ∀ (j : Nat) t v, Try.f7.params[j]? = some t → args[j]? = some v → Value.okWide Try.prog W .any base t v := hval0
  have hW' := hW
  obtain ⟨p, q, hA0, hV, rfl, hfz, hnd⟩ := hW
  have hA : DataW.TrodAll enc Try.prog W 0 (fun _ => true) true Try.f7.params.toList args.toList ds p := hA0
  rw [Try.params7] at hA hval
  obtain ⟨v0, vs0, d0, ds0, p0, q0, hargs, rfl, rfl, h0, r0⟩ := trodAll_cons hA
  obtain ⟨v1, vs1, d1, ds1, p1, q1, rfl, rfl, rfl, h1, r1⟩ := trodAll_cons r0
  obtain ⟨v2, vs2, d2, ds2, p2, q2, rfl, rfl, rfl, h2, r2⟩ := trodAll_cons r1
  obtain ⟨rfl, rfl, rfl⟩ := trodAll_nil r2
  obtain rfl : args = #[v0, v1, v2] := by cases args; simp_all
  obtain ⟨rfl, rfl⟩ := trodVars_none hV
  obtain ⟨A0, cap0, l0, rfl, g0⟩ := hints_of (hval 0 22 v0 rfl rfl) h0
  obtain ⟨a1, rfl, rfl, rfl, w1⟩ := open_int Try.underlying3 (hval 1 3 v1 rfl rfl) h1
  obtain ⟨a2, rfl, rfl, rfl, w2⟩ := open_int Try.underlying5 (hval 2 5 v2 rfl rfl) h2
  clear hA0 hval0
  refine (tops_any A0 cap0 l0 a1 a2 W g0 (wf_i64 w1).1 (wf_i64 w1).2 (wf_u8 w2).1 (wf_u8 w2).2).mono fun e W' ⟨he, hb⟩ => ?_
  subst he
  exact ⟨_, rfl, post_keep topHints_laidOut (fun t ht => topHints_types t ht) rfl hW' (fun ds' hds => topHints_fn ds' hds) (by kernel_rfl) Try.underlying4 hb⟩

theorem topHints_holds : Rows.TopHintsSaid :=
  OpenClaim.holds_of_wide 7 Try.f7 rfl rfl rfl rfl rfl rfl rfl ⟨rfl, rfl, rfl, rfl, rfl⟩ rfl rfl rfl rfl rfl (by kernel_rfl) Try.func7 (by kernel_rfl)
    (of_decide_eq_true (by kernel_rfl)) (by unfold Func.isWrapper; first | (rw [if_pos (by decide +kernel)]; kernel_rfl) | (rw [if_neg (by decide +kernel)]; exact ⟨rfl, rfl⟩))
    (fun os started H enc _ => topHints_lifted os started H enc)
end Go.Proofs.Ytkcnhdponcbjaaa
