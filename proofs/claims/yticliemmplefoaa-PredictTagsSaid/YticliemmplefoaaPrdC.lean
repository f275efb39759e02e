/-
  predict: a row filtered and restored: apply, reverse.
-/
import Derived.Test.YticliemmplefoaaPrdB
import Derived.Laws.IdiomStrings
import Derived.Laws.MakeOwn
import Derived.OwnWalk
import Derived.Lib.BufferRead
import Derived.StillTailTactics
import Derived.Deep.RegionWith
import Derived.Deep.RegionLaw
import Derived.BigQuiet
import Derived.Deep.QuietTactic
import Derived.LoopTactic
import Derived.Deep.RegionHeld3
import Derived.RegionTactic
import Derived.Deep.AppendLies
namespace Go.Proofs.Yticliemmplefoaa
open Go.RowKit Oct Prd

theorem binfo : (Try.prog.info? 5).map (fun i => (i.zero, i.size, i.bytes)) = some (some (.int .u8 0), 1, 1) := by kernel_rfl
def bC (l : List UInt8) : List Value := l.map fun b => .int .u8 (b.toNat : Int)
theorem bC_len (l : List UInt8) : (bC l).length = l.length := by simp [bC]
theorem bC_app (a b : List UInt8) : bC (a ++ b) = bC a ++ bC b := by simp [bC]
theorem bC_at (l : List UInt8) (k : Nat) (h : k < l.length) : (bC l)[k]? = some (.int .u8 (l[k].toNat : Int)) := by simp [bC, h]
theorem bC_zero (n : Nat) : List.replicate n (Value.int .u8 0) = bC (List.replicate n 0) := by simp [bC]
theorem bC_set (a : List UInt8) (m : Nat) (x : UInt8) (k : Nat) (hk : a.length = k) : (bC (a ++ List.replicate (m + 1) 0)).set k (.int .u8 (x.toNat : Int)) = bC ((a ++ [x]) ++ List.replicate m 0) := by
  subst hk
  rw [List.replicate_succ]
  simp [bC]
/-- A row that is owned is a row that can be read. -/
theorem IsRow.own {W : World} {N n : Nat} {v : Value} {l : List UInt8} (h : W.ownsRow N 5 1 v n (bC l)) : IsRow W v l := by
  have hl : n = l.length := by have := h.1; rw [bC_len] at this; omega
  subst hl
  rcases h.2 with ⟨rfl, h0⟩ | ⟨g, cap, cur, rfl, _⟩
  · exact ⟨none, 0, by rw [h0], fun j hj => by omega⟩
  · refine ⟨some ⟨g, 0, none⟩, cap, rfl, fun j hj => ⟨g, 0, rfl, ?_⟩⟩
    rw [Nat.zero_add, h.cellAt j (by omega)]
    exact bC_at l j hj
theorem sub8_wrap (a b : UInt8) : IntKind.u8.wrap ((a.toNat : Int) - (b.toNat : Int)) = ((a - b).toNat : Int) := by
  show ((a.toNat : Int) - b.toNat) % 256 = _
  rw [UInt8.toNat_sub]
  have := byteR a
  have := byteR b
  omega
theorem add8_wrap (a b : UInt8) : IntKind.u8.wrap ((a.toNat : Int) + (b.toNat : Int)) = ((a + b).toNat : Int) := by
  show ((a.toNat : Int) + b.toNat) % 256 = _
  rw [UInt8.toNat_add]
  have := byteR a
  have := byteR b
  omega
/-- What a row filter answers: a row of its own. -/
def RowEnd' (w : World) (l : List UInt8) (e : Ending) (w' : World) : Prop := ∃ G, e = .returned (.slice (some ⟨G, 0, none⟩) l.length l.length) ∧ w'.ownsRow w.heap.size 5 1 (.slice (some ⟨G, 0, none⟩) l.length l.length) l.length (bC l) ∧ Below w.heap.size w w'

set_option maxRecDepth 100000 in
set_option maxHeartbeats 4000000 in
theorem apply_any (F : FuncId) (t : Nat) (hF : FilterIs F t) (pv rv : Value) (prev row : List UInt8) (c : Nat) (w : World) (hp : IsRow w pv prev) (hr : IsRow w rv row) (hl : row.length ≤ 100000) (hc : c ≤ 1000000) :
    Calls Try.prog 22 #[.func (.func F) #[] #[], pv, rv, .int .i64 (c : Int)] w (RowEnd' w (lessR t prev row c)) := by
  obtain ⟨i5, hi, hz0, hz1, hz2⟩ := info_parts binfo
  obtain ⟨N, hN⟩ : ∃ N, w.heap.size = N := ⟨_, rfl⟩
  obtain ⟨n, hn⟩ : ∃ n, row.length = n := ⟨_, rfl⟩
  obtain ⟨w1, hmk, hown, hg⟩ := run_make_full (P := Try.prog) w w.heap.size 42 5 i5 (.int .u8 0) 1 Try.underlying42 hi hz0 hz1 .i64 .i64 n (by rw [hz2]; omega) (by unfold maxLen; omega) (Nat.le_refl _)
  have hin := hF.1
  have hm0 : (madeCells (Value.int .u8 0).cells (n * 1)).toList = bC (lessN t prev row c 0 ++ List.replicate (n - 0) 0) := by
    show (madeCells #[Value.int .u8 0] (n * 1)).toList = _
    rw [toList_madeCells_one, Nat.mul_one]
    exact bC_zero n
  rw [hm0, hN] at hown
  have hb1 : Below N w w1 := (show Below N w w by rw [← hN]; exact Below.refl _ _).grown hg (by omega) (fun _ h => by cases h)
  rw [hN] at hmk
  have HO := Lib.hid hown
  have HB1 := Lib.hid hb1
  have HP := Lib.hid hp
  have HR := Lib.hid hr
  have HF := Lib.hid hF.2
  have HN := Lib.hid hN
  have HL := Lib.hid hn
  have hrv := hr
  obtain ⟨A, C, hv, _⟩ := hrv
  rw [hn] at hv
  have hlen : (lessR t prev row c).length = n := by rw [lessR_len, hn]
  unfold RowEnd'
  rw [hlen, hN]
  subst hv
  have hnb : n ≤ 100000 := by omega
  clear hown hg hb1 hp hr hF hm0 hlen
  go_enter Try.func22, Try.ntmps22
  go_wp2_with fail
  go_loopw [17] (fun i wr => ∃ k : Nat, k ≤ n ∧ i = .int .i64 (k : Int) ∧ Hid (wr.ownsRow N 5 1 (.slice (some ⟨N, 0, none⟩) n n) n (bC (lessN t prev row c k ++ List.replicate (n - k) 0))) ∧ Hid (Below N w wr)) (fun i _ => n - (intOf i).toNat)
  case atStart => exact ⟨0, by omega, rfl, HO, HB1⟩
  case round =>
    obtain ⟨k, hk, rfl, HOw, HBw⟩ := hrel
    by_cases hlt : k < n
    · have hkl : k < row.length := by rw [HL.out]; exact hlt
      have hrw : IsRow wr (.slice A n C) row := HR.out.below (by rw [HN.out]; exact Nat.le_refl _) HBw.out
      have hpw : IsRow wr pv prev := HP.out.below (by rw [HN.out]; exact Nat.le_refl _) HBw.out
      obtain ⟨b, o, C', hv2, hcells⟩ := hrw.at0 (by omega)
      rw [HL.out] at hv2
      injection hv2 with e1 e2 e3
      subst e1 e3
      have hc1 := hcells k hkl
      obtain ⟨d, hd⟩ : ∃ d : UInt8, row[k] = d := ⟨_, rfl⟩
      rw [hd] at hc1
      have HBs := Lib.hid (beside_any pv (.slice (some ⟨b, o, none⟩) n C) prev row k c wr hpw hrw (by omega) hc)
      obtain ⟨q, hq⟩ : ∃ q, offR t prev row k c = q := ⟨_, rfl⟩
      have HC2 := Lib.hid (fun (a0 b0 c0 : UInt8) (W : World) (h : offF t a0 b0 c0 = q) => h ▸ HF.out a0 b0 c0 W)
      have hlen : (lessN t prev row c k).length = k := lessN_len _ _ _ _ _
      have hz1c : wr.cell? ⟨N, k, none⟩ = some (.int .u8 0) := by
        rw [HOw.out.cellAt k (by omega), bC_app, List.getElem?_append_right (by rw [bC_len, hlen]; exact Nat.le_refl _), bC_len, hlen, Nat.sub_self, show n - k = (n - (k + 1)) + 1 by omega, List.replicate_succ]
        rfl
      have hf1 : wr.frozen? ⟨N, k, none⟩ = false := HOw.out.frozenAt k
      have hwr := sub8_wrap d q
      obtain ⟨x, hx⟩ : ∃ x : UInt8, d - q = x := ⟨_, rfl⟩
      rw [hx] at hwr
      have HX : Hid ((bC (lessN t prev row c k ++ List.replicate (n - k) 0)).set k (.int .u8 (x.toNat : Int)) = bC (lessN t prev row c (k + 1) ++ List.replicate (n - (k + 1)) 0)) := Lib.hid (by
        rw [show n - k = (n - (k + 1)) + 1 by omega, bC_set _ _ x k hlen]
        congr 2
        rw [← hx, ← hq, ← hd, lessN, rAt_in row hkl])
      have hNext := HOw.out.stored k (.int .u8 (x.toNat : Int))
      have HO2 := Lib.hid hNext.1
      rw [HX.out] at HO2
      have HB2 : Hid (Below N w (wr.setCell ⟨N, k, none⟩ (.int .u8 (x.toNat : Int)))) := Lib.hid (HBw.out.grown hNext.2 (by have := HBw.out.size; rw [HN.out] at this; exact this) (fun g h => by injection h with h; omega))
      have HQ := Lib.hid hq
      clear hcells hrw hpw hlen hq hx hNext hd
      go_wp2_with fail
      refine HBs.out.mono ?_
      rintro e w2 ⟨rfl, rfl⟩
      go_wp2_with fail
      refine (HC2.out _ _ _ _ HQ.out).mono ?_
      rintro e w2 ⟨rfl, rfl⟩
      go_wp2_with fail
      go_roundw
      case rel => exact ⟨k + 1, by omega, by go_num, HO2, HB2⟩
      case measure => simp [intOf]; omega
    · obtain rfl : k = n := by omega
      have HE : Hid (wr.ownsRow N 5 1 (.slice (some ⟨N, 0, none⟩) k k) k (bC (lessR t prev row c))) := Lib.hid (by
        have h := HOw.out
        rw [Nat.sub_self, List.replicate_zero, List.append_nil] at h
        have e : lessN t prev row c k = lessR t prev row c := by unfold lessR; rw [HL.out]
        rw [e] at h
        exact h)
      go_wp2_with fail
      go_ret
      exact ⟨N, rfl, HE.out, HBw.out⟩

set_option maxRecDepth 100000 in
set_option maxHeartbeats 4000000 in
theorem reverse_any (F : FuncId) (t : Nat) (hF : FilterIs F t) (pv rv : Value) (prev row : List UInt8) (c : Nat) (w : World) (hp : IsRow w pv prev) (hr : IsRow w rv row) (hl : row.length ≤ 100000) (hc : c ≤ 1000000) (hc1 : 1 ≤ c) :
    Calls Try.prog 30 #[.func (.func F) #[] #[], pv, rv, .int .i64 (c : Int)] w (RowEnd' w (backR t prev c [] row)) := by
  obtain ⟨i5, hi, hz0, hz1, hz2⟩ := info_parts binfo
  obtain ⟨N, hN⟩ : ∃ N, w.heap.size = N := ⟨_, rfl⟩
  obtain ⟨n, hn⟩ : ∃ n, row.length = n := ⟨_, rfl⟩
  obtain ⟨w1, hmk, hown, hg⟩ := run_make_full (P := Try.prog) w w.heap.size 42 5 i5 (.int .u8 0) 1 Try.underlying42 hi hz0 hz1 .i64 .i64 n (by rw [hz2]; omega) (by unfold maxLen; omega) (Nat.le_refl _)
  have hin := hF.1
  have hm0 : (madeCells (Value.int .u8 0).cells (n * 1)).toList = bC (backR t prev c [] (row.take 0) ++ List.replicate (n - 0) 0) := by
    show (madeCells #[Value.int .u8 0] (n * 1)).toList = _
    rw [toList_madeCells_one, Nat.mul_one]
    exact bC_zero n
  rw [hm0, hN] at hown
  have hb1 : Below N w w1 := (show Below N w w by rw [← hN]; exact Below.refl _ _).grown hg (by omega) (fun _ h => by cases h)
  rw [hN] at hmk
  have HO := Lib.hid hown
  have HB1 := Lib.hid hb1
  have HP := Lib.hid hp
  have HR := Lib.hid hr
  have HF := Lib.hid hF.2
  have HN := Lib.hid hN
  have HL := Lib.hid hn
  have hrv := hr
  obtain ⟨A, C, hv, _⟩ := hrv
  rw [hn] at hv
  have hlen : (backR t prev c [] row).length = n := by rw [backR_len, hn]; simp
  unfold RowEnd'
  rw [hlen, hN]
  subst hv
  have hnb : n ≤ 100000 := by omega
  clear hown hg hb1 hp hr hF hm0 hlen
  go_enter Try.func30, Try.ntmps30
  go_wp2_with fail
  go_loopw [17] (fun i wr => ∃ k : Nat, k ≤ n ∧ i = .int .i64 (k : Int) ∧ Hid (wr.ownsRow N 5 1 (.slice (some ⟨N, 0, none⟩) n n) n (bC (backR t prev c [] (row.take k) ++ List.replicate (n - k) 0))) ∧ Hid (Below N w wr)) (fun i _ => n - (intOf i).toNat)
  case atStart => exact ⟨0, by omega, rfl, HO, HB1⟩
  case round =>
    obtain ⟨k, hk, rfl, HOw, HBw⟩ := hrel
    by_cases hlt : k < n
    · have hkl : k < row.length := by rw [HL.out]; exact hlt
      have hrw : IsRow wr (.slice A n C) row := HR.out.below (by rw [HN.out]; exact Nat.le_refl _) HBw.out
      have hpw : IsRow wr pv prev := HP.out.below (by rw [HN.out]; exact Nat.le_refl _) HBw.out
      obtain ⟨b, o, C', hv2, hcells⟩ := hrw.at0 (by omega)
      rw [HL.out] at hv2
      injection hv2 with e1 e2 e3
      subst e1 e3
      have hc1 := hcells k hkl
      obtain ⟨d, hd⟩ : ∃ d : UInt8, row[k] = d := ⟨_, rfl⟩
      rw [hd] at hc1
      have hlen : (backR t prev c [] (row.take k)).length = k := (by rw [backR_len, List.length_take]; simp; omega)
      have hrl : rAt (backR t prev c [] (row.take k) ++ List.replicate (n - k) 0) ((k : Int) - c) = rAt (backR t prev c [] (row.take k)) ((k : Int) - c) := rAt_left _ _ (by rw [hlen]; omega)
      have HBs := Lib.hid (beside_any pv (.slice (some ⟨N, 0, none⟩) n n) prev (backR t prev c [] (row.take k) ++ List.replicate (n - k) 0) k c wr hpw (IsRow.own HOw.out) (by omega) hc)
      rw [hrl] at HBs
      obtain ⟨q, hq⟩ : ∃ q, offR t prev (backR t prev c [] (row.take k)) k c = q := ⟨_, rfl⟩
      have HC2 := Lib.hid (fun (a0 b0 c0 : UInt8) (W : World) (h : offF t a0 b0 c0 = q) => h ▸ HF.out a0 b0 c0 W)
      have hz1c : wr.cell? ⟨N, k, none⟩ = some (.int .u8 0) := by
        rw [HOw.out.cellAt k (by omega), bC_app, List.getElem?_append_right (by rw [bC_len, hlen]; exact Nat.le_refl _), bC_len, hlen, Nat.sub_self, show n - k = (n - (k + 1)) + 1 by omega, List.replicate_succ]
        rfl
      have hf1 : wr.frozen? ⟨N, k, none⟩ = false := HOw.out.frozenAt k
      have hwr := add8_wrap d q
      obtain ⟨x, hx⟩ : ∃ x : UInt8, d + q = x := ⟨_, rfl⟩
      rw [hx] at hwr
      have HX : Hid ((bC (backR t prev c [] (row.take k) ++ List.replicate (n - k) 0)).set k (.int .u8 (x.toNat : Int)) = bC (backR t prev c [] (row.take (k + 1)) ++ List.replicate (n - (k + 1)) 0)) := Lib.hid (by
        rw [show n - k = (n - (k + 1)) + 1 by omega, bC_set _ _ x k hlen]
        congr 2
        rw [← hx, ← hq, ← hd, List.take_succ_eq_append_getElem hkl, backR_app, backR, backR, hlen])
      have hNext := HOw.out.stored k (.int .u8 (x.toNat : Int))
      have HO2 := Lib.hid hNext.1
      rw [HX.out] at HO2
      have HB2 : Hid (Below N w (wr.setCell ⟨N, k, none⟩ (.int .u8 (x.toNat : Int)))) := Lib.hid (HBw.out.grown hNext.2 (by have := HBw.out.size; rw [HN.out] at this; exact this) (fun g h => by injection h with h; omega))
      have HQ := Lib.hid hq
      clear hcells hrw hpw hlen hq hx hNext hd
      go_wp2_with fail
      refine HBs.out.mono ?_
      rintro e w2 ⟨rfl, rfl⟩
      go_wp2_with fail
      refine (HC2.out _ _ _ _ HQ.out).mono ?_
      rintro e w2 ⟨rfl, rfl⟩
      go_wp2_with fail
      go_roundw
      case rel => exact ⟨k + 1, by omega, by go_num, HO2, HB2⟩
      case measure => simp [intOf]; omega
    · obtain rfl : k = n := by omega
      have HE : Hid (wr.ownsRow N 5 1 (.slice (some ⟨N, 0, none⟩) k k) k (bC (backR t prev c [] row))) := Lib.hid (by
        have h := HOw.out
        rw [Nat.sub_self, List.replicate_zero, List.append_nil] at h
        rw [List.take_of_length_le (by rw [HL.out]; exact Nat.le_refl _)] at h
        exact h)
      go_wp2_with fail
      go_ret
      exact ⟨N, rfl, HE.out, HBw.out⟩
end Go.Proofs.Yticliemmplefoaa
