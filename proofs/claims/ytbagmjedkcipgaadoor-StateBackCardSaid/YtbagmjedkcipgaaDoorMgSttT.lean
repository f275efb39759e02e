/-
  The law's own test: lives.
-/
import Derived.Test.YtbagmjedkcipgaaDoorMgSttQ
import Derived.Test.YtbagmjedkcipgaaDoorMgSttS
namespace Go.Proofs.YtbagmjedkcipgaaDoor
open Go.RowKit Mat

theorem two_below {H x : Nat} {r : Option Nat} {a b c : World} (h : Below H a b) (ht : Two b c x r) (hx : H ≤ x) (hr : ∀ k, r = some k → H ≤ k) (hH : H ≤ a.heap.size) : Below H a c :=
  ⟨ht.os.trans h.os, ht.tape.trans h.tape, ht.output.trans h.output, Nat.le_trans h.size ht.size, fun k hk => by
    exact (ht.block k (by have := h.size; omega) (by omega) (fun e => by have := hr k e.symm; omega)).trans (h.block k hk)⟩
theorem below_then {H : Nat} {a b c : World} (h : Below H a b) (k : Below b.heap.size b c) (hH : H ≤ b.heap.size) : Below H a c := h.trans (k.mono hH)

def gF : Nat → Int := fun k => if k = 0 then 10000 else if k = 3 then 10000 else if k = 6 then 10000 else if k = 9 then 100000 else if k = 23 then 1000000 else 0
theorem zero_gs : zeroG = gsC (fun _ => 0) ⟨#[]⟩ (.slice none 0 0) := rfl
theorem first_gs : (firstC ⟨10000, 0, 0, 10000, 0, 0⟩).toArray = gsC gF ⟨#[]⟩ (.slice none 0 0) := by
  simp [firstC, gsC, gF]
theorem nat_nil (w : World) : NAt w none [] := fun _ hj => absurd hj (Nat.not_lt_zero _)
theorem same_zero (w : World) : Calls Tryd.prog 12 #[.agg zeroG, .agg zeroG] w fun e w' => e = .returned (.bool true) ∧ Below w.heap.size w w' := by
  rw [zero_gs]
  have := gsame_any (fun _ => 0) (fun _ => 0) ⟨#[]⟩ ⟨#[]⟩ none none [] [] 0 0 w (nat_nil w) (nat_nil w) (by decide)
  rwa [sameG_self] at this
theorem same_first (w : World) : Calls Tryd.prog 12 #[.agg (firstC ⟨10000, 0, 0, 10000, 0, 0⟩).toArray, .agg (firstC ⟨10000, 0, 0, 10000, 0, 0⟩).toArray] w fun e w' => e = .returned (.bool true) ∧ Below w.heap.size w w' := by
  rw [first_gs]
  have := gsame_any gF gF ⟨#[]⟩ ⟨#[]⟩ none none [] [] 0 0 w (nat_nil w) (nat_nil w) (by decide)
  rwa [sameG_self] at this

set_option maxRecDepth 100000 in
set_option maxHeartbeats 16000000 in
theorem lives_any (w : World) (hsp : SpaceAt w) (hg : 0 < w.heap.size) :
    Calls Tryd.prog 6 #[] w fun e w' => e = .returned (.bool true) ∧ Below w.heap.size w w' := by
  obtain ⟨F, hF⟩ : ∃ F, firstC ⟨10000, 0, 0, 10000, 0, 0⟩ = F := ⟨_, rfl⟩
  have hFl : F.length = 30 := by rw [← hF]; rfl
  have hF1 : ∀ u ∈ F, u.oneCell' = true := by rw [← hF]; exact first_all _
  have HF := Lib.hid (And.intro hF (And.intro hFl hF1))
  have HS := Lib.hid (And.intro hsp hg)
  clear hF hFl hF1 hsp hg
  go_enter Tryd.func6, Tryd.ntmps6
  go_wp2_with fail
  -- plain
  refine (plain_any _).mono ?_
  rintro e w1 ⟨rfl, hb⟩
  have HB1 := Lib.hid hb
  clear hb
  go_wp2_with fail
  -- New
  refine (new_ok 10000 0 0 10000 0 0 _ (by decide)).mono ?_
  rintro e w2 ⟨x, rfl, hx, hX, hb⟩
  rw [HF.out.1] at hX
  have hxw : w.heap.size ≤ x := Nat.le_trans HB1.out.size hx
  have HB2 := Lib.hid (below_then HB1.out hb HB1.out.size)
  have HX2 := Lib.hid (And.intro hX (And.intro (mkM_ok HF.out.2.1 HF.out.2.2 (v := .slice none 0 0) rfl) (mkM_at HF.out.2.1 (.slice none 0 0))))
  have hG0 := Lib.hid (mkM_g HF.out.2.1 (.slice none 0 0))
  clear hb hX hx HB1
  generalize mkM F (.slice none 0 0) = M0 at *
  go_wp2_with fail
  -- q
  refine (none_any ⟨#[113]⟩ _).mono ?_
  rintro e w3 ⟨rfl, hb⟩
  have HB3 := Lib.hid (below_then HB2.out hb HB2.out.size)
  have HX3 := Lib.hid (HX2.out.1.below hb HX2.out.1.lt)
  clear hb HB2
  go_wp2_with fail
  refine (do_q x M0 (.slice none 0 0) _ (HS.out.1.below HB3.out HS.out.2) (Nat.lt_of_lt_of_le HS.out.2 HB3.out.size) HX3.out HX2.out.2.1 HX2.out.2.2 0 [] (World.ownsRow_nil _ _ _ _) (by decide) (by simp [Value.ownBlock])).mono ?_
  rintro e w4 ⟨rfl, v1, hX, hM, hS, hn, hn2, ht⟩
  have HB4 := Lib.hid (two_below HB3.out ht hxw (fun k hk => by cases hk) (Nat.le_refl _))
  have hv1 : ∀ k, v1.ownBlock = some k → w.heap.size ≤ k := fun k hk => by
    rcases hn2 with h | ⟨g, h, h2⟩
    · rw [h] at hk; cases hk
    · rw [hk] at h; injection h with h; have := HB3.out.size; omega
  rw [List.nil_append, show gOf M0 = F from hG0.out] at hS
  have HX4 := Lib.hid (And.intro hX (And.intro hM (And.intro (putS_at HX2.out.2.1 v1) (And.intro (show gOf (putS M0 v1) = F by rw [putS_g]; exact hG0.out) (And.intro hS hn)))))
  have HV1 := Lib.hid hv1
  clear hX hM hS hn hn2 ht hv1 HB3 HX3 HX2 hG0
  generalize putS M0 v1 = M1 at *
  go_wp2_with fail
  -- w 2
  refine (op_any ⟨#[119]⟩ 2 _).mono ?_
  rintro e w5 ⟨b5, rfl, hB, hb⟩
  have HB5 := Lib.hid (below_then HB4.out hb HB4.out.size)
  have HX5 := Lib.hid (And.intro (HX4.out.1.below hb HX4.out.1.lt) (own_below HX4.out.2.2.2.2.1 hb))
  have HO := Lib.hid hB
  clear hb hB HB4
  go_wp2_with fail
  refine (do_w x M1 _ (HS.out.1.below HB5.out HS.out.2) (Nat.lt_of_lt_of_le HS.out.2 HB5.out.size) HX5.out.1 HX4.out.2.1 b5 1 2 HO.out (by decide)).mono ?_
  rintro e w6 ⟨rfl, hX, hM, ht⟩
  have HB6 := Lib.hid (two_below HB5.out ht hxw (fun k hk => by cases hk) (Nat.le_refl _))
  have h6 : (M1.setIfInBounds 6 (.int .i64 (unitsOf 2 2)))[30]? = some v1 := by rw [Array.getElem?_setIfInBounds_ne (by decide)]; exact HX4.out.2.2.1
  have hg6 : gOf (M1.setIfInBounds 6 (.int .i64 (unitsOf 2 2))) = F.set 6 (.int .i64 20000) := by
    unfold gOf
    rw [Array.toList_setIfInBounds, List.take_set, show M1.toList.take 30 = F from HX4.out.2.2.2.1]
    rfl
  have HX6 := Lib.hid (And.intro hX (And.intro hM (And.intro h6 (And.intro hg6 (own_two HX5.out.2 ht HX4.out.2.2.2.2.2)))))
  have HN1 := Lib.hid HX4.out.2.2.2.2.2
  clear hX hM ht h6 hg6 HB5 HX5 HX4 HO
  generalize M1.setIfInBounds 6 (.int .i64 (unitsOf 2 2)) = M2 at *
  go_wp2_with fail
  -- State
  refine (state_any x M2 _ HX6.out.1 HX6.out.2.1 (by rw [HX6.out.2.2.2.1, ← HF.out.1]; rfl)).mono ?_
  rintro e w7 ⟨rfl, hb⟩
  have HB7 := Lib.hid (below_then HB6.out hb HB6.out.size)
  have HX7 := Lib.hid (And.intro (HX6.out.1.below hb HX6.out.1.lt) (own_below HX6.out.2.2.2.2 hb))
  have c6 : ∀ W : World, (Instr.field 40 (.agg (gOf M2).toArray) 1).run Tryd.prog W = .ok (.int .i64 20000) W := fun W => by rw [HX6.out.2.2.2.1, ← HF.out.1]; kernel_rfl
  generalize (gOf M2).toArray = G2 at *
  clear hb HB6
  obtain ⟨A1, cp1, hv1⟩ := own_form HX7.out.2
  have HV1 := Lib.hid (And.intro HV1.out hv1)
  clear hv1
  go_wp2_with fail
  refine (depth_any x M2 A1 1 cp1 _ HX7.out.1 (by rw [← HV1.out.2]; exact HX6.out.2.2.1)).mono ?_
  rintro e w7' ⟨rfl, rfl⟩
  clear c6
  go_wp2_with fail
  -- Q
  refine (none_any ⟨#[81]⟩ _).mono ?_
  rintro e w8 ⟨rfl, hb⟩
  have HB8 := Lib.hid (below_then HB7.out hb HB7.out.size)
  have HX8 := Lib.hid (And.intro (HX7.out.1.below hb HX7.out.1.lt) (own_below HX7.out.2 hb))
  clear hb HB7 HX7
  go_wp2_with fail
  refine (do_Q x M2 v1 _ (HS.out.1.below HB8.out HS.out.2) (Nat.lt_of_lt_of_le HS.out.2 HB8.out.size) HX8.out.1 HX6.out.2.1 HX6.out.2.2.1 0 [] F HX8.out.2 HF.out.2.1 HF.out.2.2 (by decide) HN1.out).mono ?_
  rintro e w9 ⟨rfl, v2, hX, hM, hS, hn, ht⟩
  have HB9 := Lib.hid (two_below HB8.out ht hxw (fun k hk => by cases hk) (Nat.le_refl _))
  obtain ⟨A2, cp2, hv2⟩ := own_form hS
  have HX9 := Lib.hid (And.intro hX (And.intro hM (And.intro (show (mkM F v2)[30]? = some (.slice A2 0 cp2) by rw [← hv2]; exact mkM_at HF.out.2.1 v2) (mkM_g HF.out.2.1 v2))))
  clear hX hM hS hn ht hv2 HB8 HX8 HX6
  generalize mkM F v2 = M3 at *
  go_wp2_with fail
  -- Q, again
  refine (none_any ⟨#[81]⟩ _).mono ?_
  rintro e w10 ⟨rfl, hb⟩
  have HB10 := Lib.hid (below_then HB9.out hb HB9.out.size)
  have HX10 := Lib.hid (HX9.out.1.below hb HX9.out.1.lt)
  clear hb HB9
  go_wp2_with fail
  refine (do_Q_none x M3 _ (HS.out.1.below HB10.out HS.out.2) (Nat.lt_of_lt_of_le HS.out.2 HB10.out.size) HX10.out HX9.out.2.1 A2 cp2 HX9.out.2.2.1).mono ?_
  rintro e w11 ⟨rfl, hX, ht⟩
  have HB11 := Lib.hid (two_below HB10.out ht hxw (fun k hk => by cases hk) (Nat.le_refl _))
  have HX11 := Lib.hid hX
  clear hX ht HB10 HX10
  go_wp2_with fail
  -- J 3
  refine (op_any ⟨#[74]⟩ 3 _).mono ?_
  rintro e w12 ⟨b12, rfl, hB, hb⟩
  have HB12 := Lib.hid (below_then HB11.out hb HB11.out.size)
  have HX12 := Lib.hid (HX11.out.below hb HX11.out.lt)
  have HO := Lib.hid hB
  clear hb hB HB11 HX11
  go_wp2_with fail
  refine (do_J_no x M3 _ (HS.out.1.below HB12.out HS.out.2) (Nat.lt_of_lt_of_le HS.out.2 HB12.out.size) HX12.out HX9.out.2.1 b12 1 3 HO.out (by decide)).mono ?_
  rintro e w13 ⟨rfl, hX, ht⟩
  have HB13 := Lib.hid (two_below HB12.out ht hxw (fun k hk => by cases hk) (Nat.le_refl _))
  have HX13 := Lib.hid hX
  clear hX ht HB12 HX12 HO
  go_wp2_with fail
  -- l 1
  refine (op_any ⟨#[108]⟩ 1 _).mono ?_
  rintro e w14 ⟨b14, rfl, hB, hb⟩
  have HB14 := Lib.hid (below_then HB13.out hb HB13.out.size)
  have HX14 := Lib.hid (HX13.out.below hb HX13.out.lt)
  clear hb hB HB13 HX13
  go_wp2_with fail
  refine (do_l x _ (some ⟨b14, 0, none⟩) 1 1).mono ?_
  rintro e w15 ⟨rfl, hb⟩
  have HB15 := Lib.hid (below_then HB14.out hb HB14.out.size)
  have HX15 := Lib.hid (HX14.out.below hb HX14.out.lt)
  clear hb HB14 HX14
  go_wp2_with fail
  -- rg 1
  refine (op_any ⟨#[114, 103]⟩ 1 _).mono ?_
  rintro e w16 ⟨b16, rfl, hB, hb⟩
  have HB16 := Lib.hid (below_then HB15.out hb HB15.out.size)
  have HX16 := Lib.hid (HX15.out.below hb HX15.out.lt)
  have HO := Lib.hid hB
  clear hb hB HB15 HX15
  go_wp2_with fail
  refine (do_rg x _ (HS.out.1.below HB16.out HS.out.2) (Nat.lt_of_lt_of_le HS.out.2 HB16.out.size) b16 1 1 HO.out).mono ?_
  rintro e w17 ⟨rfl, hb⟩
  have HB17 := Lib.hid (below_then HB16.out hb HB16.out.size)
  have HX17 := Lib.hid (HX16.out.below hb HX16.out.lt)
  clear hb HB16 HX16 HO
  go_wp2_with fail
  -- State again
  refine (state_any x M3 _ HX17.out HX9.out.2.1 (by rw [HX9.out.2.2.2, ← HF.out.1]; rfl)).mono ?_
  rintro e w18 ⟨rfl, hb⟩
  have HB18 := Lib.hid (below_then HB17.out hb HB17.out.size)
  have HX18 := Lib.hid (HX17.out.below hb HX17.out.lt)
  have c6 : ∀ W : World, (Instr.field 40 (.agg (gOf M3).toArray) 1).run Tryd.prog W = .ok (.int .i64 10000) W := fun W => by rw [HX9.out.2.2.2, ← HF.out.1]; kernel_rfl
  generalize (gOf M3).toArray = G3 at *
  clear hb HB17 HX17
  go_wp2_with fail
  refine (depth_any x M3 A2 0 cp2 _ HX18.out HX9.out.2.2.1).mono ?_
  rintro e w18' ⟨rfl, rfl⟩
  clear c6
  go_wp2_with fail
  -- no machine
  refine (none_any ⟨#[113]⟩ _).mono ?_
  rintro e w19 ⟨rfl, hb⟩
  have HB19 := Lib.hid (below_then HB18.out hb HB18.out.size)
  clear hb HB18 HX18 HX9
  go_wp2_with fail
  refine (do_nil ⟨#[113]⟩ ⟨#[]⟩ none 0 0 _).mono ?_
  rintro e w20 ⟨rfl, hb⟩
  have HB20 := Lib.hid (below_then HB19.out hb HB19.out.size)
  clear hb HB19
  go_wp2_with fail
  refine (depth_nil _).mono ?_
  rintro e w20' ⟨rfl, rfl⟩
  go_wp2_with fail
  refine (state_nil _).mono ?_
  rintro e w21 ⟨rfl, hb⟩
  have HB21 := Lib.hid (below_then HB20.out hb HB20.out.size)
  clear hb HB20
  obtain ⟨Z, hZ⟩ : ∃ Z, zeroG = Z := ⟨_, rfl⟩
  have HSZ := Lib.hid (fun W : World => same_zero W)
  rw [hZ] at HSZ ⊢
  unfold zeroG at hZ
  go_wp2_with fail
  refine (HSZ.out _).mono ?_
  rintro e w22 ⟨rfl, hb⟩
  have HB22 := Lib.hid (below_then HB21.out hb HB21.out.size)
  clear hb HB21 HSZ hZ
  go_wp2_with fail
  -- New out of range
  refine (new_no 1099511627776 0 0 0 0 0 _ (by decide)).mono ?_
  rintro e w23 ⟨rfl, hb⟩
  have HB23 := Lib.hid (below_then HB22.out hb HB22.out.size)
  clear hb HB22
  go_wp2_with fail
  refine (plain_any _).mono ?_
  rintro e w24 ⟨rfl, hb⟩
  have HB24 := Lib.hid (below_then HB23.out hb HB23.out.size)
  clear hb HB23
  go_wp2_with fail
  refine (first_any 10000 0 0 10000 0 0 _).mono ?_
  rintro e w25 ⟨rfl, hb⟩
  have HB25 := Lib.hid (below_then HB24.out hb HB24.out.size)
  clear hb HB24
  have cT : ∀ W : World, (Instr.field 40 (.agg (firstC ⟨10000, 0, 0, 10000, 0, 0⟩).toArray) 9).run Tryd.prog W = .ok (.agg #[.int .i64 0, .int .i64 0, .int .i64 1000000, .int .i64 0, .int .i64 0, .int .i64 0, .string ⟨#[]⟩, .int .i64 0]) W := fun W => by kernel_rfl
  have cU : ∀ W : World, (Instr.field 38 (.agg #[.int .i64 0, .int .i64 0, .int .i64 1000000, .int .i64 0, .int .i64 0, .int .i64 0, .string ⟨#[]⟩, .int .i64 0]) 2).run Tryd.prog W = .ok (.int .i64 1000000) W := fun W => by kernel_rfl
  have HSF := Lib.hid (fun W : World => same_first W)
  generalize hGF : (firstC ⟨10000, 0, 0, 10000, 0, 0⟩).toArray = GF at *
  have HGF := Lib.hid hGF
  clear hGF
  go_wp2_with fail
  clear cT cU
  refine (plain_any _).mono ?_
  rintro e w26 ⟨rfl, hb⟩
  have HB26 := Lib.hid (below_then HB25.out hb HB25.out.size)
  clear hb HB25
  go_wp2_with fail
  refine (first_any 10000 0 0 10000 0 0 _).mono ?_
  rintro e w27 ⟨rfl, hb⟩
  rw [HGF.out]
  have HB27 := Lib.hid (below_then HB26.out hb HB26.out.size)
  clear hb HB26
  go_wp2_with fail
  refine (plain_any _).mono ?_
  rintro e w28 ⟨rfl, hb⟩
  have HB28 := Lib.hid (below_then HB27.out hb HB27.out.size)
  clear hb HB27
  go_wp2_with fail
  refine (refFirst_any 10000 0 0 10000 0 0 _).mono ?_
  rintro e w29 ⟨rfl, hb⟩
  rw [HGF.out]
  have HB29 := Lib.hid (below_then HB28.out hb HB28.out.size)
  clear hb HB28
  go_wp2_with fail
  refine (HSF.out _).mono ?_
  rintro e w30 ⟨rfl, hb⟩
  have HB30 := Lib.hid (below_then HB29.out hb HB29.out.size)
  clear hb HB29
  go_wp2_with fail
  go_ret
  exact ⟨rfl, HB30.out⟩
end Go.Proofs.YtbagmjedkcipgaaDoor
