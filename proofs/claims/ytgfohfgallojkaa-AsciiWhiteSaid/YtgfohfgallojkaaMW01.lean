/-
  Lemmas and walks, joined: AscBk.
-/
import Derived.Test.YtgfohfgallojkaaM12
import Derived.Test.YtgfohfgallojkaaM13
import Derived.HandedShaped
import Derived.OpenShut
import Derived.ChangeMaps5
namespace Go.Proofs.Ytgfohfgallojkaa
open Go.ChangeShapes Go.WideShapes Go.ChangeAt Go.RowKit Oct Asc Go.Shelf

theorem aunhex_c (p r : ByteArray) (n e : Int) (hs : p.size ≤ 4000000000) (h : unhexF p n = (e, r.data.toList)) (he : e = 0 ∨ r = ⟨#[]⟩) (w : World) :
    Calls Try.prog 8 #[.string p, .int .i64 n] w fun e' w' => e' = .returned (.tuple #[.string r, .int .i64 e]) ∧ Below w.heap.size w w' := by
  refine (aunhex_any p n w hs).mono ?_
  rintro e' w' ⟨rfl, hb⟩
  refine ⟨?_, hb⟩
  rw [h]
  have hr : decS (e, r.data.toList) = r := by
    unfold decS
    by_cases h0 : e = 0
    · rw [if_pos h0]
    · rw [if_neg h0]
      rcases he with he | he
      · exact absurd he h0
      · exact he.symm
  rw [hr]
theorem aunfive_c (p r : ByteArray) (n e : Int) (hs : p.size ≤ 4000000000) (h : unfiveF p n = (e, r.data.toList)) (he : e = 0 ∨ r = ⟨#[]⟩) (w : World) :
    Calls Try.prog 10 #[.string p, .int .i64 n] w fun e' w' => e' = .returned (.tuple #[.string r, .int .i64 e]) ∧ Below w.heap.size w w' := by
  refine (aunfive_any p n w hs).mono ?_
  rintro e' w' ⟨rfl, hb⟩
  refine ⟨?_, hb⟩
  rw [h]
  have hr : decS (e, r.data.toList) = r := by
    unfold decS
    by_cases h0 : e = 0
    · rw [if_pos h0]
    · rw [if_neg h0]
      rcases he with he | he
      · exact absurd he h0
      · exact he.symm
  rw [hr]
theorem aunrun_c (p r : ByteArray) (n e : Int) (hs : p.size ≤ 4000000000) (h : unrunF p n = (e, r.data.toList)) (he : e = 0 ∨ r = ⟨#[]⟩) (w : World) :
    Calls Try.prog 12 #[.string p, .int .i64 n] w fun e' w' => e' = .returned (.tuple #[.string r, .int .i64 e]) ∧ Below w.heap.size w w' := by
  refine (aunrun_any p n w hs).mono ?_
  rintro e' w' ⟨rfl, hb⟩
  refine ⟨?_, hb⟩
  rw [h]
  have hr : decS (e, r.data.toList) = r := by
    unfold decS
    by_cases h0 : e = 0
    · rw [if_pos h0]
    · rw [if_neg h0]
      rcases he with he | he
      · exact absurd he h0
      · exact he.symm
  rw [hr]
theorem toList_append (a b : ByteArray) : (a ++ b).data.toList = a.data.toList ++ b.data.toList := by rw [ByteArray.data_append, Array.toList_append]
theorem len_of (s : ByteArray) : s.data.toList.length = s.size := by simp
theorem bound_min {n : Nat} (h : n ≤ 3000) : (min (n : Int) 1048576).toNat = n := by omega
theorem hex_list (s : ByteArray) : (hexB s ++ ⟨#[62]⟩ : ByteArray).data.toList = hexS s.data.toList ++ [62] := by rw [toList_append]; rfl
theorem five_list (s : ByteArray) : (⟨(fiveE s.data.toList).toArray⟩ ++ ⟨#[126, 62]⟩ : ByteArray).data.toList = fiveE s.data.toList ++ [126, 62] := by rw [toList_append]
theorem run_list (s : ByteArray) : (⟨(runE s.data.toList ++ [128]).toArray⟩ : ByteArray).data.toList = runE s.data.toList ++ [128] := by simp
/-- The three encodings of s, and what the decoders answer of them. -/
structure BackAs (s z H F R : ByteArray) (n : Nat) : Prop where
  hH : (hexB s ++ ⟨#[62]⟩ : ByteArray) = H
  hF : (⟨(fiveE s.data.toList).toArray⟩ ++ ⟨#[126, 62]⟩ : ByteArray) = F
  hR : (⟨(runE s.data.toList ++ [128]).toArray⟩ : ByteArray) = R
  zH : H.size ≤ 6001
  zF : F.size ≤ 15002
  zR : R.size ≤ 6001
  oH : 1 ≤ H.size
  oF : 2 ≤ F.size
  oR : 1 ≤ R.size
  a1 : unhexF (H ++ z) n = (0, s.data.toList)
  a2 : unfiveF (F ++ z) n = (0, s.data.toList)
  a3 : unrunF (R ++ z) n = (0, s.data.toList)
  b1 : 0 < n → unhexF H ((n : Int) - 1) = (5, [])
  b2 : 0 < n → unfiveF F ((n : Int) - 1) = (5, [])
  b3 : 0 < n → unrunF R ((n : Int) - 1) = (5, [])
  c1 : unhexF (H.extract 0 (H.size - 1)) n = (4, [])
  c2 : unfiveF (F.extract 0 (F.size - 1)) n = (4, [])
  c3 : unfiveF (F.extract 0 (F.size - 2)) n = (4, [])
  c4 : unrunF (R.extract 0 (R.size - 1)) n = (4, [])
theorem cut_tail {x : ByteArray} {l t : List UInt8} (h : x.data.toList = l ++ t) (k : Nat) (hk : k = l.length) : (x.extract 0 k).data.toList = l := by
  rw [(ext_many h k).1, hk, List.take_left]
theorem back_as (s z : ByteArray) (hs : s.size ≤ 3000) : ∃ H F R, BackAs s z H F R s.size := by
  obtain ⟨H, hH⟩ : ∃ H : ByteArray, (hexB s ++ ⟨#[62]⟩ : ByteArray) = H := ⟨_, rfl⟩
  obtain ⟨F, hF⟩ : ∃ F : ByteArray, (⟨(fiveE s.data.toList).toArray⟩ ++ ⟨#[126, 62]⟩ : ByteArray) = F := ⟨_, rfl⟩
  obtain ⟨R, hR⟩ : ∃ R : ByteArray, (⟨(runE s.data.toList ++ [128]).toArray⟩ : ByteArray) = R := ⟨_, rfl⟩
  have lH : H.data.toList = hexS s.data.toList ++ [62] := by rw [← hH]; exact hex_list s
  have lF : F.data.toList = fiveE s.data.toList ++ [126, 62] := by rw [← hF]; exact five_list s
  have lR : R.data.toList = runE s.data.toList ++ [128] := by rw [← hR]
  have ls := len_of s
  have sH : H.size = (hexS s.data.toList).length + 1 := by rw [len_size lH, List.length_append]; rfl
  have sF : F.size = (fiveE s.data.toList).length + 2 := by rw [len_size lF, List.length_append]; rfl
  have sR : R.size = (runE s.data.toList).length + 1 := by rw [len_size lR, List.length_append]; rfl
  have eH := hexS_length s.data.toList
  have eF := fiveE_len s.data.toList
  have eR := (runE_len s.size s.data.toList (by omega)).1
  have hbd : (min ((s.size : Nat) : Int) 1048576).toNat = s.size := bound_min hs
  have hnn : ¬ ((s.size : Nat) : Int) < 0 := by omega
  refine ⟨H, F, R, hH, hF, hR, by omega, by omega, by omega, by omega, by omega, by omega, ?_, ?_, ?_, ?_, ?_, ?_, ?_, ?_, ?_, ?_⟩
  · unfold unhexF
    rw [if_neg hnn, hbd, toList_append, lH, List.append_assoc, hexD_hex _ _ _ _ (by simp), List.nil_append]
    exact hexD_end _
  · unfold unfiveF
    rw [if_neg hnn, hbd, toList_append, lF, List.append_assoc]
    refine (fiveE_back _ _ _ _ [] (Nat.le_refl _) (by simp)).trans ?_
    rw [if_neg (by simp), List.nil_append]
  · unfold unrunF
    rw [if_neg hnn, hbd, toList_append, lR, List.append_assoc]
    refine (runE_back _ _ _ _ [] (Nat.le_refl _) (by simp)).trans ?_
    rw [if_neg (by simp), List.nil_append]
  · intro h0
    unfold unhexF
    rw [if_neg (by omega), lH]
    exact hexD_long _ _ _ _ (by simp) (by rw [List.length_nil, ls]; omega)
  · intro h0
    unfold unfiveF
    rw [if_neg (by omega), lF]
    refine (fiveE_back _ [] _ _ [] (Nat.le_refl _) (by simp)).trans ?_
    rw [if_pos (by rw [List.length_nil, ls]; omega)]
  · intro h0
    unfold unrunF
    rw [if_neg (by omega), lR]
    refine (runE_back _ [] _ _ [] (Nat.le_refl _) (by simp)).trans ?_
    rw [if_pos (by rw [List.length_nil, ls]; omega)]
  · unfold unhexF
    rw [if_neg hnn, hbd, cut_tail lH _ (by omega)]
    have := hexD_hex s.size [] s.data.toList [] (by simp)
    rw [List.append_nil] at this
    rw [this, hexD_nil]
  · unfold unfiveF
    have l2 : F.data.toList = (fiveE s.data.toList ++ [126]) ++ [62] := by rw [lF, List.append_assoc]; rfl
    rw [if_neg hnn, hbd, cut_tail l2 _ (by rw [List.length_append]; simp [sF])]
    exact fiveE_cut _ _ (.inr rfl) _ _ _ (Nat.le_refl _) (by simp)
  · unfold unfiveF
    rw [if_neg hnn, hbd, cut_tail lF _ (by omega)]
    have := fiveE_cut s.size [] (.inl rfl) _ s.data.toList [] (Nat.le_refl _) (by simp)
    rw [List.append_nil] at this
    exact this
  · unfold unrunF
    rw [if_neg hnn, hbd, cut_tail lR _ (by omega)]
    exact runE_cut _ _ _ _ (Nat.le_refl _) (by simp)

set_option maxRecDepth 100000 in
set_option maxHeartbeats 16000000 in
theorem ascBack_in (s z H F R : ByteArray) (n : Nat) (w : World) (hn : s.size = n) (hs : n ≤ 3000) (hz : z.size ≤ 300) (hA : BackAs s z H F R n) :
    Calls Try.prog 4 #[.string s, .string z] w fun e w' => e = .returned (.bool true) ∧ Below w.heap.size w w' := by
  have HB0 := Lib.hid (Below.refl w.heap.size w)
  obtain ⟨hH, hF, hR, zH, zF, zR, oH, oF, oR, a1, a2, a3, b1, b2, b3, c1, c2, c3, c4⟩ := hA
  have CH := Lib.hid (fun W : World => hH ▸ aschex_any s W (by omega))
  have CF := Lib.hid (fun W : World => hF ▸ five_any s W (by omega))
  have CR := Lib.hid (fun W : World => hR ▸ run_any s W (by omega))
  have A1 := Lib.hid (aunhex_c (H ++ z) s n 0 (by rw [ByteArray.size_append]; omega) a1 (.inl rfl))
  have A2 := Lib.hid (aunfive_c (F ++ z) s n 0 (by rw [ByteArray.size_append]; omega) a2 (.inl rfl))
  have A3 := Lib.hid (aunrun_c (R ++ z) s n 0 (by rw [ByteArray.size_append]; omega) a3 (.inl rfl))
  have B1 := Lib.hid (fun h => aunhex_c H ⟨#[]⟩ ((n : Int) - 1) 5 (by omega) (b1 h) (.inr rfl))
  have B2 := Lib.hid (fun h => aunfive_c F ⟨#[]⟩ ((n : Int) - 1) 5 (by omega) (b2 h) (.inr rfl))
  have B3 := Lib.hid (fun h => aunrun_c R ⟨#[]⟩ ((n : Int) - 1) 5 (by omega) (b3 h) (.inr rfl))
  obtain ⟨p1, hp1⟩ : ∃ p, H.size - 1 = p := ⟨_, rfl⟩
  obtain ⟨p2, hp2⟩ : ∃ p, F.size - 1 = p := ⟨_, rfl⟩
  obtain ⟨p3, hp3⟩ : ∃ p, F.size - 2 = p := ⟨_, rfl⟩
  obtain ⟨p4, hp4⟩ : ∃ p, R.size - 1 = p := ⟨_, rfl⟩
  rw [hp1] at c1
  rw [hp2] at c2
  rw [hp3] at c3
  rw [hp4] at c4
  have i1 : (H.size : Int) - 1 = (p1 : Int) := by omega
  have i2 : (F.size : Int) - 1 = (p2 : Int) := by omega
  have i3 : (F.size : Int) - 2 = (p3 : Int) := by omega
  have i4 : (R.size : Int) - 1 = (p4 : Int) := by omega
  have C1 := Lib.hid (aunhex_c (H.extract 0 p1) ⟨#[]⟩ n 4 (by rw [ByteArray.size_extract]; omega) c1 (.inr rfl))
  have C2 := Lib.hid (aunfive_c (F.extract 0 p2) ⟨#[]⟩ n 4 (by rw [ByteArray.size_extract]; omega) c2 (.inr rfl))
  have C3 := Lib.hid (aunfive_c (F.extract 0 p3) ⟨#[]⟩ n 4 (by rw [ByteArray.size_extract]; omega) c3 (.inr rfl))
  have C4 := Lib.hid (aunrun_c (R.extract 0 p4) ⟨#[]⟩ n 4 (by rw [ByteArray.size_extract]; omega) c4 (.inr rfl))
  have j1 : (0 : Int) ≤ (p1 : Int) := by omega
  have j2 : (0 : Int) ≤ (p2 : Int) := by omega
  have j3 : (0 : Int) ≤ (p3 : Int) := by omega
  have j4 : (0 : Int) ≤ (p4 : Int) := by omega
  have k1 : (p1 : Int) ≤ (H.size : Int) := by omega
  have k2 : (p2 : Int) ≤ (F.size : Int) := by omega
  have k3 : (p3 : Int) ≤ (F.size : Int) := by omega
  have k4 : (p4 : Int) ≤ (R.size : Int) := by omega
  have f1 : ¬ (3000 : Int) < (n : Int) := by omega
  have f2 : ¬ (300 : Int) < (z.size : Int) := by omega
  clear hH hF hR a1 a2 a3 b1 b2 b3 c1 c2 c3 c4 hp1 hp2 hp3 hp4 oH oF oR
  go_enter Try.func4, Try.ntmps4
  go_wp2_with fail
  refine (ascLives_any _).mono ?_
  rintro e w1 ⟨rfl, hb⟩
  have HB1 := Lib.hid (HB0.out.trans (hb.mono HB0.out.size))
  clear hb
  go_wp2_with fail
  refine (CH.out _).mono ?_
  rintro e w2 ⟨rfl, hb⟩
  have HB2 := Lib.hid (HB1.out.trans (hb.mono HB1.out.size))
  clear hb
  go_wp2_with fail
  refine (A1.out _).mono ?_
  rintro e w3 ⟨rfl, hb⟩
  have HB3 := Lib.hid (HB2.out.trans (hb.mono HB2.out.size))
  clear hb
  go_wp2_with fail
  refine (CF.out _).mono ?_
  rintro e w4 ⟨rfl, hb⟩
  have HB4 := Lib.hid (HB3.out.trans (hb.mono HB3.out.size))
  clear hb
  go_wp2_with fail
  refine (A2.out _).mono ?_
  rintro e w5 ⟨rfl, hb⟩
  have HB5 := Lib.hid (HB4.out.trans (hb.mono HB4.out.size))
  clear hb
  go_wp2_with fail
  refine (CR.out _).mono ?_
  rintro e w6 ⟨rfl, hb⟩
  have HB6 := Lib.hid (HB5.out.trans (hb.mono HB5.out.size))
  clear hb
  go_wp2_with fail
  refine (A3.out _).mono ?_
  rintro e w7 ⟨rfl, hb⟩
  have HB7 := Lib.hid (HB6.out.trans (hb.mono HB6.out.size))
  clear hb
  rcases Nat.eq_zero_or_pos n with hz0 | hz0
  · have g0 : ¬ (0 : Int) < (n : Int) := by omega
    clear hz0
    go_wp2_with fail
    refine (CH.out _).mono ?_
    rintro e w8 ⟨rfl, hb⟩
    have HB8 := Lib.hid (HB7.out.trans (hb.mono HB7.out.size))
    clear hb
    go_wp2_with fail
    refine (CF.out _).mono ?_
    rintro e w9 ⟨rfl, hb⟩
    have HB9 := Lib.hid (HB8.out.trans (hb.mono HB8.out.size))
    clear hb
    go_wp2_with fail
    refine (CR.out _).mono ?_
    rintro e w10 ⟨rfl, hb⟩
    have HB10 := Lib.hid (HB9.out.trans (hb.mono HB9.out.size))
    clear hb
    go_wp2_with fail
    refine (C1.out _).mono ?_
    rintro e w11 ⟨rfl, hb⟩
    have HB11 := Lib.hid (HB10.out.trans (hb.mono HB10.out.size))
    clear hb
    go_wp2_with fail
    refine (C2.out _).mono ?_
    rintro e w12 ⟨rfl, hb⟩
    have HB12 := Lib.hid (HB11.out.trans (hb.mono HB11.out.size))
    clear hb
    go_wp2_with fail
    refine (C3.out _).mono ?_
    rintro e w13 ⟨rfl, hb⟩
    have HB13 := Lib.hid (HB12.out.trans (hb.mono HB12.out.size))
    clear hb
    go_wp2_with fail
    refine (C4.out _).mono ?_
    rintro e w14 ⟨rfl, hb⟩
    have HB14 := Lib.hid (HB13.out.trans (hb.mono HB13.out.size))
    clear hb
    go_wp2_with fail
    go_ret
    exact ⟨rfl, HB14.out⟩
  · have g0 : (0 : Int) < (n : Int) := by omega
    have D1 := Lib.hid (B1.out hz0)
    have D2 := Lib.hid (B2.out hz0)
    have D3 := Lib.hid (B3.out hz0)
    go_wp2_with fail
    refine (CH.out _).mono ?_
    rintro e w8 ⟨rfl, hb⟩
    have HB8 := Lib.hid (HB7.out.trans (hb.mono HB7.out.size))
    clear hb
    go_wp2_with fail
    refine (D1.out _).mono ?_
    rintro e w9 ⟨rfl, hb⟩
    have HB9 := Lib.hid (HB8.out.trans (hb.mono HB8.out.size))
    clear hb
    go_wp2_with fail
    refine (CF.out _).mono ?_
    rintro e w10 ⟨rfl, hb⟩
    have HB10 := Lib.hid (HB9.out.trans (hb.mono HB9.out.size))
    clear hb
    go_wp2_with fail
    refine (D2.out _).mono ?_
    rintro e w11 ⟨rfl, hb⟩
    have HB11 := Lib.hid (HB10.out.trans (hb.mono HB10.out.size))
    clear hb
    go_wp2_with fail
    refine (CR.out _).mono ?_
    rintro e w12 ⟨rfl, hb⟩
    have HB12 := Lib.hid (HB11.out.trans (hb.mono HB11.out.size))
    clear hb
    go_wp2_with fail
    refine (D3.out _).mono ?_
    rintro e w13 ⟨rfl, hb⟩
    have HB13 := Lib.hid (HB12.out.trans (hb.mono HB12.out.size))
    clear hb
    go_wp2_with fail
    refine (CH.out _).mono ?_
    rintro e w14 ⟨rfl, hb⟩
    have HB14 := Lib.hid (HB13.out.trans (hb.mono HB13.out.size))
    clear hb
    go_wp2_with fail
    refine (CF.out _).mono ?_
    rintro e w15 ⟨rfl, hb⟩
    have HB15 := Lib.hid (HB14.out.trans (hb.mono HB14.out.size))
    clear hb
    go_wp2_with fail
    refine (CR.out _).mono ?_
    rintro e w16 ⟨rfl, hb⟩
    have HB16 := Lib.hid (HB15.out.trans (hb.mono HB15.out.size))
    clear hb
    go_wp2_with fail
    refine (C1.out _).mono ?_
    rintro e w17 ⟨rfl, hb⟩
    have HB17 := Lib.hid (HB16.out.trans (hb.mono HB16.out.size))
    clear hb
    go_wp2_with fail
    refine (C2.out _).mono ?_
    rintro e w18 ⟨rfl, hb⟩
    have HB18 := Lib.hid (HB17.out.trans (hb.mono HB17.out.size))
    clear hb
    go_wp2_with fail
    refine (C3.out _).mono ?_
    rintro e w19 ⟨rfl, hb⟩
    have HB19 := Lib.hid (HB18.out.trans (hb.mono HB18.out.size))
    clear hb
    go_wp2_with fail
    refine (C4.out _).mono ?_
    rintro e w20 ⟨rfl, hb⟩
    have HB20 := Lib.hid (HB19.out.trans (hb.mono HB19.out.size))
    clear hb
    go_wp2_with fail
    go_ret
    exact ⟨rfl, HB20.out⟩

set_option maxRecDepth 100000 in
set_option maxHeartbeats 16000000 in
theorem ascBack_any (s z : ByteArray) (w : World) :
    Calls Try.prog 4 #[.string s, .string z] w fun e w' => e = .returned (.bool true) ∧ Below w.heap.size w w' := by
  by_cases hb : s.size ≤ 3000 ∧ z.size ≤ 300
  · obtain ⟨H, F, R, h⟩ := back_as s z hb.1
    exact ascBack_in s z H F R s.size w rfl hb.1 hb.2 h
  · have hp : (decide ((3000 : Int) < (s.size : Int)) || decide ((300 : Int) < (z.size : Int))) = true := by
      simp only [Bool.or_eq_true, decide_eq_true_eq]
      omega
    clear hb
    go_enter Try.func4, Try.ntmps4
    go_wp2_with fail
    refine (ascLives_any _).mono ?_
    rintro e w1 ⟨rfl, hb⟩
    go_wp2_with fail
    all_goals (go_ret; exact ⟨rfl, hb⟩)


/-! ### The row. -/
theorem asciiBack_laidOut : laidOutB Try.prog = true := by kernel_rfl
theorem asciiBack_own : ownKnob Try.prog.godebug = none := by kernel_rfl
theorem asciiBack_types (t : TypeId) (ht : t ∈ Try.f4.params.toList) : Try.prog.readableRec t = true ∧ t < Try.prog.types.size := by
  rw [Try.params4] at ht
  simp only [List.mem_cons, List.not_mem_nil, or_false] at ht
  rcases ht with rfl | rfl
  · exact ⟨by kernel_rfl, of_decide_eq_true (by kernel_rfl)⟩
  · exact ⟨by kernel_rfl, of_decide_eq_true (by kernel_rfl)⟩
theorem asciiBack_fn {H : Type} (ds' : List (DataW H)) (h : ds'.length = Try.f4.params.size) : Rows.asciiBackSpec.fn H ds' = { results := [.lit (.bool true)], args := ds' } := by
  have h' : ds'.length = 2 := h.trans (by kernel_rfl)
  match ds', h' with
  | [_, _], _ => rfl

set_option maxRecDepth 100000 in
theorem asciiBack_lifted (os : Os) (started : os.Started) (H : Type) (enc : TypeId × Value → H) :
    ReturnsInHanded {} Try.checked os 4 .any (Rows.asciiBackSpec.pre6 enc Try.prog Try.f4 Rows.asciiBackRow.domain false) (Rows.asciiBackSpec.post enc Try.prog Try.f4 false true false false) := by
  refine returnsInHanded_of_change_shaped (C := Try.checked) asciiBack_own started (by kernel_rfl) Try.func4
    (ChangeSpec.witness6 (enc := enc) (C := Try.checked) false ⟨#[], #[.string ⟨#[]⟩, .string ⟨#[]⟩], []⟩ 8 (by kernel_rfl) (by kernel_rfl) (by kernel_rfl) (by kernel_rfl)) ?_
  intro W base args ds gs before hval0 hW hcnd0 _ hsh _
  have hval : ∀ (j : Nat) t v, Try.f4.params[j]? = some t → args[j]? = some v → Value.okWide Try.prog W .any base t v := hval0
  have hW' := hW
  obtain ⟨p, q, hA0, hV, rfl, hfz, hnd⟩ := hW
  have hA : DataW.TrodAll enc Try.prog W 0 (fun _ => true) true Try.f4.params.toList args.toList ds p := hA0
  rw [Try.params4] at hA hval
  obtain ⟨v0, vs0, d0, ds0, p0, q0, hargs, rfl, rfl, h0, r0⟩ := trodAll_cons hA
  obtain ⟨v1, vs1, d1, ds1, p1, q1, rfl, rfl, rfl, h1, r1⟩ := trodAll_cons r0
  obtain ⟨rfl, rfl, rfl⟩ := trodAll_nil r1
  obtain rfl : args = #[v0, v1] := by cases args; simp_all
  obtain ⟨rfl, rfl⟩ := trodVars_none hV
  obtain ⟨a0, rfl, rfl, rfl, w0⟩ := Go.ChangeMaps.open_string Try.underlying9 (hval 0 9 v0 rfl rfl) h0
  obtain ⟨a1, rfl, rfl, rfl, w1⟩ := Go.ChangeMaps.open_string Try.underlying9 (hval 1 9 v1 rfl rfl) h1
  clear hA0 hval0
  refine (ascBack_any a0 a1 W).mono fun e W' ⟨he, hb⟩ => ?_
  subst he
  exact ⟨_, rfl, post_keep asciiBack_laidOut (fun t ht => asciiBack_types t ht) rfl hW' (fun ds' hds => asciiBack_fn ds' hds) (by kernel_rfl) Try.underlying4 hb⟩

theorem asciiBack_holds : Rows.AsciiBackSaid :=
  OpenClaim.holds_of_wide 4 Try.f4 rfl rfl rfl rfl rfl rfl rfl ⟨rfl, rfl, rfl, rfl, rfl⟩ rfl rfl rfl rfl rfl (by kernel_rfl) Try.func4 (by kernel_rfl)
    (of_decide_eq_true (by kernel_rfl)) (by unfold Func.isWrapper; first | (rw [if_pos (by decide +kernel)]; kernel_rfl) | (rw [if_neg (by decide +kernel)]; exact ⟨rfl, rfl⟩))
    (fun os started H enc _ => asciiBack_lifted os started H enc)
end Go.Proofs.Ytgfohfgallojkaa
