/-
  The document's less and best.
-/
import Derived.Test.YthdjocbpnmjbgaaPrdC
namespace Go.Proofs.Ythdjocbpnmjbgaa
open Go.RowKit Oct Prd
attribute [-go_sem] Builtin.append_

theorem IsRow.heap {W W' : World} {v : Value} {l : List UInt8} (h : IsRow W v l) (he : W'.heap = W.heap) : IsRow W' v l := by
  obtain ⟨A, C, rfl, h2⟩ := h
  refine ⟨A, C, rfl, fun j hj => ?_⟩
  obtain ⟨b, o, h3, h4⟩ := h2 j hj
  exact ⟨b, o, h3, by rw [← h4]; simp [World.cell?, he]⟩
/-- A row that the call owns, wherever it lies. -/
def OwnEnd (w : World) (l : List UInt8) (e : Ending) (w' : World) : Prop := ∃ A C, e = .returned (.slice A l.length C) ∧ w'.ownsRow w.heap.size 5 1 (.slice A l.length C) l.length (bC l) ∧ Below w.heap.size w w'

set_option maxRecDepth 100000 in
set_option maxHeartbeats 4000000 in
theorem lessD_any (t : Nat) (pv rv : Value) (prev row : List UInt8) (c : Nat) (w : World) (ht : t < 5) (hp : IsRow w pv prev) (hr : IsRow w rv row) (hl : row.length ≤ 100000) (hc : c ≤ 1000000) :
    Calls Try.prog 27 #[.int .i64 (t : Int), pv, rv, .int .i64 (c : Int)] w (OwnEnd w (lessR t prev row c)) := by
  obtain ⟨i5, hi, hz0, hz1, hz2⟩ := info_parts binfo
  obtain ⟨N, hN⟩ : ∃ N, w.heap.size = N := ⟨_, rfl⟩
  obtain ⟨n, hn⟩ : ∃ n, row.length = n := ⟨_, rfl⟩
  have HP := Lib.hid hp
  have HR := Lib.hid hr
  have HN := Lib.hid hN
  have HL := Lib.hid hn
  obtain ⟨A, C, hv, _⟩ := hr
  rw [hn] at hv
  have hlen : (lessR t prev row c).length = n := by rw [lessR_len, hn]
  unfold OwnEnd
  rw [hlen, hN]
  subst hv
  have hnb : n ≤ 100000 := by omega
  have HB0 := Lib.hid (show Below N w w by rw [← hN]; exact Below.refl _ _)
  clear hp hlen
  go_enter Try.func27, Try.ntmps27
  go_wp2_with fail
  go_loopw [9, 10] (fun v i wr => ∃ k : Nat, k ≤ n ∧ i = .int .i64 (k : Int) ∧ Hid (wr.ownsRow N 5 1 v k (bC (lessN t prev row c k))) ∧ Hid (Below N w wr)) (fun _ i _ => n - (intOf i).toNat)
  case atStart => exact ⟨0, by omega, rfl, Lib.hid (World.ownsRow_nil _ _ _ _), HB0⟩
  case round =>
    obtain ⟨k, hk, rfl, HOw, HBw⟩ := hrel
    obtain ⟨G, K, hvf⟩ := own_form HOw.out
    subst hvf
    by_cases hlt : k < n
    · have hkl : k < row.length := by rw [HL.out]; exact hlt
      have hrw : IsRow wr (.slice A n C) row := HR.out.below (by rw [HN.out]; exact Nat.le_refl _) HBw.out
      have hpw : IsRow wr pv prev := HP.out.below (by rw [HN.out]; exact Nat.le_refl _) HBw.out
      have HOff := Lib.hid (fun (W : World) (h : W.heap = wr.heap) => off_any t pv (.slice A n C) prev row k c W ht (hpw.heap h) (hrw.heap h) (by omega) hc)
      obtain ⟨b, o, C', hv2, hcells⟩ := hrw.at0 (by omega)
      rw [HL.out] at hv2
      injection hv2 with e1 e2 e3
      subst e1 e3
      have hev : ∀ W : World, Below N w W → W.cell? ⟨b, o + k, none⟩ = some (.int .u8 (row[k].toNat : Int)) := fun W hW => by
        obtain ⟨b', o', C2, h1, h2⟩ := (HR.out.below (by rw [HN.out]; exact Nat.le_refl _) hW).at0 (by omega)
        injection h1 with h3 h4 h5
        injection h3 with h6
        injection h6 with h7 h8
        subst h7 h8
        exact h2 k hkl
      have hc1 := hcells k hkl
      obtain ⟨d, hd⟩ : ∃ d : UInt8, row[k] = d := ⟨_, rfl⟩
      rw [hd] at hc1 hev
      obtain ⟨q, hq⟩ : ∃ q, offR t prev row k c = q := ⟨_, rfl⟩
      rw [hq] at HOff
      have hwr := sub8_wrap d q
      obtain ⟨x, hx⟩ : ∃ x : UInt8, d - q = x := ⟨_, rfl⟩
      rw [hx] at hwr
      have hWN : N ≤ wr.heap.size := by have := HBw.out.size; rw [HN.out] at this; exact this
      obtain ⟨v2, w2, hrun, hown2, hgrow2, _⟩ := run_append_own (P := Try.prog) (w := (wr.alloc (.cells #[.int .u8 (x.toNat : Int)] 5)).drew) N 43 43 5 i5 (.int .u8 0) 1 1 Try.underlying43 hi hz0 hz1 hz2 rfl (by decide) (.slice G k K) k (bC (lessN t prev row c k)) ((HOw.out.alloc _).drew) ⟨wr.heap.size, 0, none⟩ 1 1 [.int .u8 (x.toNat : Int)] (by rfl) (World.news_of_block (heap_alloc_new wr _)) (by simp [Value.oneCell']) (by unfold maxLen; omega) (by omega) (by show N ≤ (wr.alloc _).heap.size; rw [World.size_alloc]; omega)
      have HB2 : Hid (Below N w w2) := Lib.hid (((HBw.out.alloc hWN _).drew).grown hgrow2 (by show N ≤ (wr.alloc _).heap.size; rw [World.size_alloc]; omega) (fun g h => (HOw.out.lt g h).1))
      have HO2 : Hid (w2.ownsRow N 5 1 v2 (k + 1) (bC (lessN t prev row c (k + 1)))) := Lib.hid (by
        have e : bC (lessN t prev row c (k + 1)) = bC (lessN t prev row c k) ++ [.int .u8 (x.toNat : Int)] := by
          rw [lessN, bC_app, rAt_in row hkl, hd, hq, hx]
          rfl
        rw [e]
        exact hown2)
      have hc2 := hev _ ((HBw.out.alloc hWN (.cells #[.int .u8 (x.toNat : Int)] 5)).drew)
      have hc3 := hev _ HB2.out
      clear hcells hrw hpw hq hx hd hown2 hgrow2 hev
      go_wp2_with fail
      go_region_held3 (fun w' => w'.cell? ⟨b, o + k, none⟩ = some (.int .u8 (d.toNat : Int))) (first | exact hc1 | exact hc2 | exact hc3) ((go_at_call 30; refine (HOff.out _ (by rfl)).mono ?_; rintro e w4 ⟨rfl, rfl⟩))
      all_goals
        go_wp2_with fail
        go_roundw
        case rel => exact ⟨k + 1, by omega, by go_num, HO2, HB2⟩
        case measure => simp [intOf]; omega
    · obtain rfl : k = n := by omega
      have HE : Hid (wr.ownsRow N 5 1 (.slice G k K) k (bC (lessR t prev row c))) := Lib.hid (by
        have h := HOw.out
        have e : lessN t prev row c k = lessR t prev row c := by unfold lessR; rw [HL.out]
        rw [e] at h
        exact h)
      go_wp2_with fail
      go_ret
      exact ⟨G, K, rfl, HE.out, HBw.out⟩
end Go.Proofs.Ythdjocbpnmjbgaa
