/-
  The law's own test of size: whatever the operators are, it answers something.
-/
import Derived.Test.YtbagmjedkcipgaaDoorMgJObjA
namespace Go.Proofs.YtbagmjedkcipgaaDoor
open Go.RowKit

set_option maxRecDepth 100000 in
set_option maxHeartbeats 8000000 in
theorem small_any (A : Option Addr) (c : Nat) (l : List OpT) (W : World) (h : OpsIs W A l) (hm : l.length ≤ maxLen) :
    Calls Tryd.prog 5 #[.slice A l.length c] W fun e w' => ∃ z : Bool, e = .returned (.bool z) ∧ Below W.heap.size W w' := by
  unfold maxLen at hm
  obtain ⟨H, hH⟩ : ∃ H, W.heap.size = H := ⟨_, rfl⟩
  have HA := Lib.hid (fun (V : World) (hV : Below H W V) => h.below (by rw [hH]; exact hV))
  obtain ⟨p, hp⟩ : ∃ p, l.length = p := ⟨_, rfl⟩
  have HP := Lib.hid hp
  have HH := Lib.hid hH
  rw [hp]
  have hpI : (p : Int) ≤ 9223372036854775807 := by omega
  clear h hm hp hH
  go_enter Tryd.func5, Tryd.ntmps5
  go_wp2_with fail
  go_loopw [3, 4] (fun vn vi wr => ∃ (z : Int) (i : Nat), i ≤ p ∧ vn = .int .i64 z ∧ vi = .int .i64 (i : Int) ∧ Hid (Below H W wr)) (fun _ vi _ => p - (intOf vi).toNat)
  case atStart => exact ⟨0, 0, by omega, rfl, rfl, Lib.hid (by rw [← HH.out]; exact Below.refl _ _)⟩
  case round =>
    obtain ⟨z, i, hi, rfl, rfl, HN⟩ := hrel
    by_cases hlt : i < p
    · have hik : (i : Int) < (p : Int) := by omega
      have hik0 : (0 : Int) ≤ (i : Int) := by omega
      have hil : i < l.length := by rw [HP.out]; exact hlt
      obtain ⟨b, off, ra, rc, rfl, hb, c0, c1, c2, hk, hkm⟩ := (HA.out wr HN.out) i hil
      unfold maxLen at hkm
      obtain ⟨nm, hnm⟩ : ∃ x, l[i].nm = x := ⟨_, rfl⟩
      obtain ⟨dt, hdt⟩ : ∃ x, l[i].data = x := ⟨_, rfl⟩
      obtain ⟨ts, hts⟩ : ∃ x, l[i].args = x := ⟨_, rfl⟩
      rw [hnm] at c0
      rw [hdt] at c2
      rw [hts] at c1 hk hkm
      obtain ⟨q, hq⟩ : ∃ q, ts.length = q := ⟨_, rfl⟩
      rw [hq] at c1 hkm
      have hqI : (q : Int) ≤ 9223372036854775807 := by omega
      have HQ := Lib.hid hq
      have HK := Lib.hid (fun (V : World) (hV : Below wr.heap.size wr V) => KidsIs.below hV ra ts 0 hk)
      have HO := Lib.hid (fun (V : World) (hV : Below wr.heap.size wr V) => And.intro ((hV.cell (p := ⟨b, off + i * 3, none⟩) hb).trans c0) ((hV.cell (p := ⟨b, off + i * 3 + 1, none⟩) hb).trans c1))
      clear hnm hdt hts hk hkm hq hil
      go_upto_region 5 with fail
      go_quiet (fail)
      go_upto_region 7 with fail
      clear c0 c1 c2
      go_loopw [3, 5] (fun vn vi wx => ∃ (z : Int) (j : Nat), j ≤ q ∧ vn = .int .i64 z ∧ vi = .int .i64 (j : Int) ∧ Hid (Below wr.heap.size wr wx)) (fun _ vi _ => q - (intOf vi).toNat)
      case atStart => exact ⟨_, 0, by omega, rfl, rfl, Lib.hid (below_drewN (Below.refl _ _) _)⟩
      case round =>
        obtain ⟨z2, j, hj, rfl, rfl, HN2⟩ := hrel
        have c1 := (HO.out _ HN2.out).2
        by_cases hlt2 : j < q
        · have hjk : (j : Int) < (q : Int) := by omega
          have hjk0 : (0 : Int) ≤ (j : Int) := by omega
          have hjl : j < ts.length := by rw [HQ.out]; exact hlt2
          obtain ⟨b2, off2, cs, rfl, hbl, hcl, hat, hob⟩ := kids_at ts 0 (HK.out _ HN2.out) j hjl
          rw [Nat.zero_add] at hat
          match cs, hcl with
          | [d0, d1, d2, d3, d4, d5], _ =>
            have e0 := hat 0 (by decide)
            have e1 := hat 1 (by decide)
            have e2 := hat 2 (by decide)
            have e3 := hat 3 (by decide)
            have e4 := hat 4 (by decide)
            have e5 := hat 5 (by decide)
            simp only [List.getElem?_cons_zero, List.getElem?_cons_succ, Nat.add_zero] at e0 e1 e2 e3 e4 e5
            obtain ⟨tr, htr⟩ : ∃ x, ts[j] = x := ⟨_, rfl⟩
            rw [htr] at hob
            obtain ⟨U, hU⟩ : ∃ U, U = wr := ⟨_, rfl⟩
            have HC := Lib.hid (fun (V : World) (hV : ObjIs V tr [d0, d1, d2, d3, d4, d5]) => size_any (SizeOf.sizeOf tr) tr (Nat.le_refl _) _ V hV)
            have HOb := Lib.hid hob
            clear hat htr hob
            go_wp2_with fail
            refine (HC.out _ HOb.out).mono ?_
            rintro e w1 ⟨z3, rfl, hb1⟩
            have HB := Lib.hid (HN2.out.trans (hb1.mono HN2.out.size))
            clear hb1 e0 e1 e2 e3 e4 e5 c1
            go_wp2_with fail
            go_roundw
            case rel => exact ⟨_, j + 1, by omega, rfl, by go_num, HB⟩
            case measure => simp [intOf]; omega
        · obtain rfl : j = q := by omega
          have HB := Lib.hid (show Below H W _ from HN.out.trans (HN2.out.mono (by rw [← HH.out]; exact HN.out.size)))
          go_wp2_with fail
          go_roundw
          case rel => exact ⟨_, i + 1, by omega, rfl, by go_num, HB⟩
          case measure => simp [intOf]; omega
    · obtain rfl : i = p := by omega
      have HB := Lib.hid (show Below W.heap.size W wr by rw [HH.out]; exact HN.out)
      by_cases h80 : (i : Int) ≤ 80
      · by_cases h4 : z ≤ 4000
        · go_wp2_with fail
          go_ret
          first | exact ⟨_, rfl, HB.out⟩ | exact ⟨Or.inl rfl, HB.out⟩ | exact ⟨Or.inr rfl, HB.out⟩
        · go_wp2_with fail
          go_ret
          first | exact ⟨_, rfl, HB.out⟩ | exact ⟨Or.inl rfl, HB.out⟩ | exact ⟨Or.inr rfl, HB.out⟩
      · go_wp2_with fail
        go_ret
        first | exact ⟨_, rfl, HB.out⟩ | exact ⟨Or.inl rfl, HB.out⟩ | exact ⟨Or.inr rfl, HB.out⟩
end Go.Proofs.YtbagmjedkcipgaaDoor
