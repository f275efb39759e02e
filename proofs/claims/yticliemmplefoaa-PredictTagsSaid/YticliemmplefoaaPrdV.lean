/-
  predict's Encode and Decode.
-/
import Derived.Test.YticliemmplefoaaPrdU
import Derived.Deep.RegionHeld3
namespace Go.Proofs.Yticliemmplefoaa
open Go.RowKit Oct Prd
attribute [local go_sem] Oper.semAt_some

set_option maxRecDepth 100000 in
set_option maxHeartbeats 8000000 in
theorem enc1_ok (s : ByteArray) (l : List UInt8) (pr co cl : Int) (A : ByteArray) (P Q : Nat) (W : World) (hl : s.data.toList = l) (hs : s.size ≤ 4000) (h0 : I64 pr) (h1 : I64 co) (h2 : I64 cl) (hP : Blk W P 23 #[.int .i64 pr, .int .i64 co, .int .i64 cl]) (hQ : Blk W Q 9 #[.string s]) (hr : (encF pr co cl l).1 = 0) (hA : (⟨(encF pr co cl l).2.toArray⟩ : ByteArray) = A) :
    Calls Try.prog 13 #[.pointer (some ⟨P, 0, none⟩), .pointer (some ⟨Q, 0, none⟩)] W fun e W' => e = .returned (.string A) ∧ Below W.heap.size W W' := by
  obtain ⟨t, ht⟩ : ∃ t, tgsI pr = t := ⟨_, rfl⟩
  have HTg := Lib.hid (fun W : World => tags_any pr co cl W)
  have HMk := Lib.hid (fun W : World => encoder_made pr co cl W)
  have HRec := Lib.hid (fun (bp ba bn : Nat) (W : World) (hne : bp ≠ bn ∧ ba ≠ bn) (hC : CoderBlk W bp ba bn pr co cl) =>
    (show Calls Try.prog 14 #[parmsV pr co cl, .string s, .int .i64 0, .int .i64 t, .func (.func 27) #[] #[.pointer (some ⟨bp, 0, none⟩), .pointer (some ⟨bn, 0, none⟩), .pointer (some ⟨ba, 0, none⟩)]] W fun e W' => e = .returned (.string A) ∧ Two W W' bn none from by
      have := recoded_enc s l pr co cl bp ba bn W hl hs h0 h1 h2 hne hC
      rw [ht] at this
      refine this.mono ?_
      rintro e W' ⟨h, hT⟩
      refine ⟨?_, hT⟩
      rcases h with ⟨e1, e2⟩ | ⟨e1, _, e2⟩
      · rw [e2, hA]
      · exact absurd hr e1))
  rw [ht] at HTg
  unfold parmsV at HTg HMk HRec
  have HS := Lib.hid (fun (W2 : World) (hb : Below W.heap.size W W2) => (show W2.cell? ⟨P, 0, none⟩ = some (.int .i64 pr) ∧ W2.cell? ⟨P, 1, none⟩ = some (.int .i64 co) ∧ W2.cell? ⟨P, 2, none⟩ = some (.int .i64 cl) ∧ W2.cell? ⟨Q, 0, none⟩ = some (.string s) from by
    have hP2 := hP.below hb hP.lt
    have hQ2 := hQ.below hb hQ.lt
    exact ⟨hP2.cell 0, hP2.cell 1, hP2.cell 2, hQ2.cell 0⟩))
  clear ht hP hQ hr h0 h1 h2 hl
  obtain ⟨s1, s2, s3, s4⟩ := HS.out W (Below.refl _ _)
  go_enter Try.func13, Try.ntmps13
  go_wp2_with fail
  go_region_held3 (fun W2 => W2.cell? ⟨P, 0, none⟩ = some (.int .i64 pr) ∧ W2.cell? ⟨P, 1, none⟩ = some (.int .i64 co) ∧ W2.cell? ⟨P, 2, none⟩ = some (.int .i64 cl) ∧ W2.cell? ⟨Q, 0, none⟩ = some (.string s)) (first | exact ⟨s1, s2, s3, s4⟩ | exact HS.out _ HB1.out | exact HS.out _ HB2.out | exact HS.out _ HB3.out)
    ((first
      | (go_at_call 15; refine (HTg.out _).mono ?_; rintro e w1 ⟨rfl, hb⟩; have HB1 := Lib.hid (((Below.refl _ W).drew).trans hb); clear hb)
      | (go_at_call 16; refine (HMk.out _).mono ?_; rintro e w2 ⟨bp, ba, bn, rfl, g1, g2, g3, hblk, hb⟩; have HB2 := Lib.hid (HB1.out.trans (hb.mono HB1.out.size)); have HBN := Lib.hid (show W.heap.size ≤ bn by have := HB1.out.size; omega); have HNE := Lib.hid (show bp ≠ bn ∧ ba ≠ bn by omega); have HBL := Lib.hid hblk; clear hb g1 g2 g3 hblk)
      | (go_at_call 14; refine (HRec.out _ _ _ _ HNE.out HBL.out).mono ?_; rintro e w3 ⟨rfl, hT⟩; have HB3 := Lib.hid (show Below W.heap.size W w3 from (⟨hT.os.trans HB2.out.os, hT.tape.trans HB2.out.tape, hT.output.trans HB2.out.output, Nat.le_trans HB2.out.size hT.size, fun i hi => (hT.block i (Nat.lt_of_lt_of_le hi HB2.out.size) (by have := HBN.out; omega) (by simp)).trans (HB2.out.block i hi)⟩)); clear hT)))
  all_goals
    go_wp2
    go_ret
    exact ⟨rfl, HB3.out⟩

set_option maxRecDepth 100000 in
set_option maxHeartbeats 8000000 in
theorem enc1_no (s : ByteArray) (l : List UInt8) (pr co cl : Int) (x : Int) (P Q : Nat) (W : World) (hl : s.data.toList = l) (hs : s.size ≤ 4000) (h0 : I64 pr) (h1 : I64 co) (h2 : I64 cl) (hP : Blk W P 23 #[.int .i64 pr, .int .i64 co, .int .i64 cl]) (hQ : Blk W Q 9 #[.string s]) (hr : (encF pr co cl l).1 = x) (hx : x ≠ 0) :
    Calls Try.prog 13 #[.pointer (some ⟨P, 0, none⟩), .pointer (some ⟨Q, 0, none⟩)] W fun e W' => e = gUp x ∧ Below W.heap.size W W' := by
  obtain ⟨t, ht⟩ : ∃ t, tgsI pr = t := ⟨_, rfl⟩
  have HTg := Lib.hid (fun W : World => tags_any pr co cl W)
  have HMk := Lib.hid (fun W : World => encoder_made pr co cl W)
  have HRec := Lib.hid (fun (bp ba bn : Nat) (W : World) (hne : bp ≠ bn ∧ ba ≠ bn) (hC : CoderBlk W bp ba bn pr co cl) =>
    (show Calls Try.prog 14 #[parmsV pr co cl, .string s, .int .i64 0, .int .i64 t, .func (.func 27) #[] #[.pointer (some ⟨bp, 0, none⟩), .pointer (some ⟨bn, 0, none⟩), .pointer (some ⟨ba, 0, none⟩)]] W fun e W' => e = gUp x ∧ Two W W' bn none from by
      have := recoded_enc s l pr co cl bp ba bn W hl hs h0 h1 h2 hne hC
      rw [ht] at this
      refine this.mono ?_
      rintro e W' ⟨h, hT⟩
      refine ⟨?_, hT⟩
      rcases h with ⟨e1, e2⟩ | ⟨e1, _, e2⟩
      · exact absurd (hr.symm.trans e1) hx
      · rw [e2, hr]))
  rw [ht] at HTg
  unfold parmsV at HTg HMk HRec
  have HS := Lib.hid (fun (W2 : World) (hb : Below W.heap.size W W2) => (show W2.cell? ⟨P, 0, none⟩ = some (.int .i64 pr) ∧ W2.cell? ⟨P, 1, none⟩ = some (.int .i64 co) ∧ W2.cell? ⟨P, 2, none⟩ = some (.int .i64 cl) ∧ W2.cell? ⟨Q, 0, none⟩ = some (.string s) from by
    have hP2 := hP.below hb hP.lt
    have hQ2 := hQ.below hb hQ.lt
    exact ⟨hP2.cell 0, hP2.cell 1, hP2.cell 2, hQ2.cell 0⟩))
  clear ht hP hQ hr h0 h1 h2 hl
  obtain ⟨s1, s2, s3, s4⟩ := HS.out W (Below.refl _ _)
  go_enter Try.func13, Try.ntmps13
  go_wp2_with fail
  refine wp_region_held_drew (S := fun W2 => W2.cell? ⟨P, 0, none⟩ = some (.int .i64 pr) ∧ W2.cell? ⟨P, 1, none⟩ = some (.int .i64 co) ∧ W2.cell? ⟨P, 2, none⟩ = some (.int .i64 cl) ∧ W2.cell? ⟨Q, 0, none⟩ = some (.string s)) (by kernel_rfl) (HS.out _ ((Below.refl _ W).drew)) (fun hHeld => ?_)
  refine wpAnyH_take (i := 0) (v := ?_) rfl (by kernel_rfl) (by kernel_rfl) (by kernel_rfl) (fun _ _ _ h => h) (Or.inl ⟨by rfl, ?_⟩) (by assumption) ?_
  rotate_left
  · intro w hSw
    try dsimp only at hSw
    go_simp
    first | done | with_reducible rfl
  try simp only [Act.put, List.setIfInBounds_toArray]
  refine wpAnyH_take (i := 1) (v := ?_) rfl (by kernel_rfl) (by kernel_rfl) (by kernel_rfl) (fun _ _ _ h => h) (Or.inl ⟨by rfl, ?_⟩) (by assumption) ?_
  rotate_left
  · intro w hSw
    try dsimp only at hSw
    go_simp
    first | done | with_reducible rfl
  try simp only [Act.put]
  refine wpAnyH_take (i := 2) (v := ?_) rfl (by kernel_rfl) (by kernel_rfl) (by kernel_rfl) (fun _ _ _ h => h) (Or.inl ⟨by rfl, ?_⟩) (by assumption) ?_
  rotate_left
  · intro w hSw
    try dsimp only at hSw
    go_simp
    first | done | with_reducible rfl
  try simp only [Act.put]
  refine wpAnyH_take (i := 4) (v := ?_) rfl (by kernel_rfl) (by kernel_rfl) (by kernel_rfl) (fun _ _ _ h => h) (Or.inl ⟨by rfl, ?_⟩) (by assumption) ?_
  rotate_left
  · intro w hSw
    try dsimp only at hSw
    go_simp
    first | done | with_reducible rfl
  try simp only [Act.put]
  refine wpAnyH_ready (rs := [3]) (by kernel_rfl) (by simp) ?_
  refine AllReadyH.cons rfl (fun K hK => ?_) AllReadyH.nil
  go_simp
  refine (HTg.out _).mono ?_
  rintro e w1 ⟨rfl, hb⟩
  have HB1 := Lib.hid (((Below.refl _ W).drew).trans hb)
  refine hK.out _ _ (HS.out _ HB1.out) (fun hHeld1 => ?_)
  clear hb hK K hHeld
  refine wpAnyH_ready (rs := [5]) (by kernel_rfl) (by simp) ?_
  refine AllReadyH.cons rfl (fun K hK => ?_) AllReadyH.nil
  go_simp
  refine (HMk.out _).mono ?_
  rintro e w2 ⟨bp, ba, bn, rfl, g1, g2, g3, hblk, hb⟩
  have HB2 := Lib.hid (HB1.out.trans (hb.mono HB1.out.size))
  have HBN := Lib.hid (show W.heap.size ≤ bn by have := HB1.out.size; omega)
  have HNE := Lib.hid (show bp ≠ bn ∧ ba ≠ bn by omega)
  have HBL := Lib.hid hblk
  refine hK.out _ _ (HS.out _ HB2.out) (fun hHeld2 => ?_)
  clear hb g1 g2 g3 hblk hK K hHeld1
  refine wpAnyH_ready (rs := [6]) (by kernel_rfl) (by simp) ?_
  refine AllReadyH.cons rfl (fun K hK => ?_) AllReadyH.nil
  go_simp
  refine (HRec.out _ _ _ _ HNE.out HBL.out).mono ?_
  rintro e w3 ⟨rfl, hT⟩
  exact ⟨rfl, rfl, ⟨hT.os.trans HB2.out.os, hT.tape.trans HB2.out.tape, hT.output.trans HB2.out.output, Nat.le_trans HB2.out.size hT.size, fun i hi => (hT.block i (Nat.lt_of_lt_of_le hi HB2.out.size) (by have := HBN.out; omega) (by simp)).trans (HB2.out.block i hi)⟩⟩

set_option maxRecDepth 100000 in
set_option maxHeartbeats 8000000 in
theorem dec1_ok (s : ByteArray) (l : List UInt8) (pr co cl : Int) (A : ByteArray) (P Q : Nat) (W : World) (hl : s.data.toList = l) (hs : s.size ≤ 4000) (h0 : I64 pr) (h1 : I64 co) (h2 : I64 cl) (hP : Blk W P 23 #[.int .i64 pr, .int .i64 co, .int .i64 cl]) (hQ : Blk W Q 9 #[.string s]) (hr : (decF pr co cl l).1 = 0) (hA : (⟨(decF pr co cl l).2.toArray⟩ : ByteArray) = A) :
    Calls Try.prog 17 #[.pointer (some ⟨P, 0, none⟩), .pointer (some ⟨Q, 0, none⟩)] W fun e W' => e = .returned (.string A) ∧ Below W.heap.size W W' := by
  obtain ⟨t, ht⟩ : ∃ t, tgsI pr = t := ⟨_, rfl⟩
  have HTg := Lib.hid (fun W : World => tags_any pr co cl W)
  have HMk := Lib.hid (fun W : World => decoder_made pr co cl W)
  have HRec := Lib.hid (fun (bp ba bn : Nat) (W : World) (hne : bp ≠ bn ∧ ba ≠ bn) (hC : CoderBlk W bp ba bn pr co cl) =>
    (show Calls Try.prog 14 #[parmsV pr co cl, .string s, .int .i64 t, .int .i64 0, .func (.func 29) #[] #[.pointer (some ⟨bp, 0, none⟩), .pointer (some ⟨ba, 0, none⟩), .pointer (some ⟨bn, 0, none⟩)]] W fun e W' => e = .returned (.string A) ∧ Two W W' bn none from by
      have := recoded_dec s l pr co cl bp ba bn W hl hs h0 h1 h2 hne hC
      rw [ht] at this
      refine this.mono ?_
      rintro e W' ⟨h, hT⟩
      refine ⟨?_, hT⟩
      rcases h with ⟨e1, e2⟩ | ⟨e1, _, e2⟩
      · rw [e2, hA]
      · exact absurd hr e1))
  rw [ht] at HTg
  unfold parmsV at HTg HMk HRec
  have HS := Lib.hid (fun (W2 : World) (hb : Below W.heap.size W W2) => (show W2.cell? ⟨P, 0, none⟩ = some (.int .i64 pr) ∧ W2.cell? ⟨P, 1, none⟩ = some (.int .i64 co) ∧ W2.cell? ⟨P, 2, none⟩ = some (.int .i64 cl) ∧ W2.cell? ⟨Q, 0, none⟩ = some (.string s) from by
    have hP2 := hP.below hb hP.lt
    have hQ2 := hQ.below hb hQ.lt
    exact ⟨hP2.cell 0, hP2.cell 1, hP2.cell 2, hQ2.cell 0⟩))
  clear ht hP hQ hr h0 h1 h2 hl
  obtain ⟨s1, s2, s3, s4⟩ := HS.out W (Below.refl _ _)
  go_enter Try.func17, Try.ntmps17
  go_wp2_with fail
  go_region_held3 (fun W2 => W2.cell? ⟨P, 0, none⟩ = some (.int .i64 pr) ∧ W2.cell? ⟨P, 1, none⟩ = some (.int .i64 co) ∧ W2.cell? ⟨P, 2, none⟩ = some (.int .i64 cl) ∧ W2.cell? ⟨Q, 0, none⟩ = some (.string s)) (first | exact ⟨s1, s2, s3, s4⟩ | exact HS.out _ HB1.out | exact HS.out _ HB2.out | exact HS.out _ HB3.out)
    ((first
      | (go_at_call 15; refine (HTg.out _).mono ?_; rintro e w1 ⟨rfl, hb⟩; have HB1 := Lib.hid (((Below.refl _ W).drew).trans hb); clear hb)
      | (go_at_call 18; refine (HMk.out _).mono ?_; rintro e w2 ⟨bp, ba, bn, rfl, g1, g2, g3, hblk, hb⟩; have HB2 := Lib.hid (HB1.out.trans (hb.mono HB1.out.size)); have HBN := Lib.hid (show W.heap.size ≤ bn by have := HB1.out.size; omega); have HNE := Lib.hid (show bp ≠ bn ∧ ba ≠ bn by omega); have HBL := Lib.hid hblk; clear hb g1 g2 g3 hblk)
      | (go_at_call 14; refine (HRec.out _ _ _ _ HNE.out HBL.out).mono ?_; rintro e w3 ⟨rfl, hT⟩; have HB3 := Lib.hid (show Below W.heap.size W w3 from (⟨hT.os.trans HB2.out.os, hT.tape.trans HB2.out.tape, hT.output.trans HB2.out.output, Nat.le_trans HB2.out.size hT.size, fun i hi => (hT.block i (Nat.lt_of_lt_of_le hi HB2.out.size) (by have := HBN.out; omega) (by simp)).trans (HB2.out.block i hi)⟩)); clear hT)))
  all_goals
    go_wp2
    go_ret
    exact ⟨rfl, HB3.out⟩

set_option maxRecDepth 100000 in
set_option maxHeartbeats 8000000 in
theorem dec1_no (s : ByteArray) (l : List UInt8) (pr co cl : Int) (x : Int) (P Q : Nat) (W : World) (hl : s.data.toList = l) (hs : s.size ≤ 4000) (h0 : I64 pr) (h1 : I64 co) (h2 : I64 cl) (hP : Blk W P 23 #[.int .i64 pr, .int .i64 co, .int .i64 cl]) (hQ : Blk W Q 9 #[.string s]) (hr : (decF pr co cl l).1 = x) (hx : x ≠ 0) :
    Calls Try.prog 17 #[.pointer (some ⟨P, 0, none⟩), .pointer (some ⟨Q, 0, none⟩)] W fun e W' => e = gUp x ∧ Below W.heap.size W W' := by
  obtain ⟨t, ht⟩ : ∃ t, tgsI pr = t := ⟨_, rfl⟩
  have HTg := Lib.hid (fun W : World => tags_any pr co cl W)
  have HMk := Lib.hid (fun W : World => decoder_made pr co cl W)
  have HRec := Lib.hid (fun (bp ba bn : Nat) (W : World) (hne : bp ≠ bn ∧ ba ≠ bn) (hC : CoderBlk W bp ba bn pr co cl) =>
    (show Calls Try.prog 14 #[parmsV pr co cl, .string s, .int .i64 t, .int .i64 0, .func (.func 29) #[] #[.pointer (some ⟨bp, 0, none⟩), .pointer (some ⟨ba, 0, none⟩), .pointer (some ⟨bn, 0, none⟩)]] W fun e W' => e = gUp x ∧ Two W W' bn none from by
      have := recoded_dec s l pr co cl bp ba bn W hl hs h0 h1 h2 hne hC
      rw [ht] at this
      refine this.mono ?_
      rintro e W' ⟨h, hT⟩
      refine ⟨?_, hT⟩
      rcases h with ⟨e1, e2⟩ | ⟨e1, _, e2⟩
      · exact absurd (hr.symm.trans e1) hx
      · rw [e2, hr]))
  rw [ht] at HTg
  unfold parmsV at HTg HMk HRec
  have HS := Lib.hid (fun (W2 : World) (hb : Below W.heap.size W W2) => (show W2.cell? ⟨P, 0, none⟩ = some (.int .i64 pr) ∧ W2.cell? ⟨P, 1, none⟩ = some (.int .i64 co) ∧ W2.cell? ⟨P, 2, none⟩ = some (.int .i64 cl) ∧ W2.cell? ⟨Q, 0, none⟩ = some (.string s) from by
    have hP2 := hP.below hb hP.lt
    have hQ2 := hQ.below hb hQ.lt
    exact ⟨hP2.cell 0, hP2.cell 1, hP2.cell 2, hQ2.cell 0⟩))
  clear ht hP hQ hr h0 h1 h2 hl
  obtain ⟨s1, s2, s3, s4⟩ := HS.out W (Below.refl _ _)
  go_enter Try.func17, Try.ntmps17
  go_wp2_with fail
  refine wp_region_held_drew (S := fun W2 => W2.cell? ⟨P, 0, none⟩ = some (.int .i64 pr) ∧ W2.cell? ⟨P, 1, none⟩ = some (.int .i64 co) ∧ W2.cell? ⟨P, 2, none⟩ = some (.int .i64 cl) ∧ W2.cell? ⟨Q, 0, none⟩ = some (.string s)) (by kernel_rfl) (HS.out _ ((Below.refl _ W).drew)) (fun hHeld => ?_)
  refine wpAnyH_take (i := 0) (v := ?_) rfl (by kernel_rfl) (by kernel_rfl) (by kernel_rfl) (fun _ _ _ h => h) (Or.inl ⟨by rfl, ?_⟩) (by assumption) ?_
  rotate_left
  · intro w hSw
    try dsimp only at hSw
    go_simp
    first | done | with_reducible rfl
  try simp only [Act.put, List.setIfInBounds_toArray]
  refine wpAnyH_take (i := 1) (v := ?_) rfl (by kernel_rfl) (by kernel_rfl) (by kernel_rfl) (fun _ _ _ h => h) (Or.inl ⟨by rfl, ?_⟩) (by assumption) ?_
  rotate_left
  · intro w hSw
    try dsimp only at hSw
    go_simp
    first | done | with_reducible rfl
  try simp only [Act.put]
  refine wpAnyH_take (i := 2) (v := ?_) rfl (by kernel_rfl) (by kernel_rfl) (by kernel_rfl) (fun _ _ _ h => h) (Or.inl ⟨by rfl, ?_⟩) (by assumption) ?_
  rotate_left
  · intro w hSw
    try dsimp only at hSw
    go_simp
    first | done | with_reducible rfl
  try simp only [Act.put]
  refine wpAnyH_take (i := 4) (v := ?_) rfl (by kernel_rfl) (by kernel_rfl) (by kernel_rfl) (fun _ _ _ h => h) (Or.inl ⟨by rfl, ?_⟩) (by assumption) ?_
  rotate_left
  · intro w hSw
    try dsimp only at hSw
    go_simp
    first | done | with_reducible rfl
  try simp only [Act.put]
  refine wpAnyH_ready (rs := [3]) (by kernel_rfl) (by simp) ?_
  refine AllReadyH.cons rfl (fun K hK => ?_) AllReadyH.nil
  go_simp
  refine (HTg.out _).mono ?_
  rintro e w1 ⟨rfl, hb⟩
  have HB1 := Lib.hid (((Below.refl _ W).drew).trans hb)
  refine hK.out _ _ (HS.out _ HB1.out) (fun hHeld1 => ?_)
  clear hb hK K hHeld
  refine wpAnyH_ready (rs := [5]) (by kernel_rfl) (by simp) ?_
  refine AllReadyH.cons rfl (fun K hK => ?_) AllReadyH.nil
  go_simp
  refine (HMk.out _).mono ?_
  rintro e w2 ⟨bp, ba, bn, rfl, g1, g2, g3, hblk, hb⟩
  have HB2 := Lib.hid (HB1.out.trans (hb.mono HB1.out.size))
  have HBN := Lib.hid (show W.heap.size ≤ bn by have := HB1.out.size; omega)
  have HNE := Lib.hid (show bp ≠ bn ∧ ba ≠ bn by omega)
  have HBL := Lib.hid hblk
  refine hK.out _ _ (HS.out _ HB2.out) (fun hHeld2 => ?_)
  clear hb g1 g2 g3 hblk hK K hHeld1
  refine wpAnyH_ready (rs := [6]) (by kernel_rfl) (by simp) ?_
  refine AllReadyH.cons rfl (fun K hK => ?_) AllReadyH.nil
  go_simp
  refine (HRec.out _ _ _ _ HNE.out HBL.out).mono ?_
  rintro e w3 ⟨rfl, hT⟩
  exact ⟨rfl, rfl, ⟨hT.os.trans HB2.out.os, hT.tape.trans HB2.out.tape, hT.output.trans HB2.out.output, Nat.le_trans HB2.out.size hT.size, fun i hi => (hT.block i (Nat.lt_of_lt_of_le hi HB2.out.size) (by have := HBN.out; omega) (by simp)).trans (HB2.out.block i hi)⟩⟩

end Go.Proofs.Yticliemmplefoaa
