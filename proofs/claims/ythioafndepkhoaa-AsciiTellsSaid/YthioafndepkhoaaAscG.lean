/-
  ascii's unfive.
-/
import Derived.Test.YthioafndepkhoaaAscF
import Derived.RegionDies
namespace Go.Proofs.Ythioafndepkhoaa
open Go.RowKit Oct Asc

theorem ext_one {R : ByteArray} {c : UInt8} {t : List UInt8} (h : R.data.toList = c :: t) : R.extract 0 1 = ⟨#[c]⟩ ∧ (R.extract 1 R.size).data.toList = t ∧ 0 < R.size := by
  have hs : R.size = t.length + 1 := by rw [len_size h]; rfl
  have h0 : 0 < R.size := by omega
  have hc := rest_cons R h0
  rw [h] at hc
  injection hc with h1 h2
  refine ⟨?_, h2.symm, h0⟩
  apply ByteArray.ext
  apply Array.ext'
  rw [ByteArray.data_extract, Array.toList_extract, h, List.extract_eq_take_drop]
  simp
theorem dtake_no (B g : Nat) (r : Option Nat) (o : List UInt8) (m : Nat) (w : World) (h : Dec B w g r [] o m) :
    Calls Try.prog 39 #[.pointer (some ⟨g, 0, none⟩), .int .i64 1] w fun e w' => e = gUp 4 ∧ w = w' := by
  obtain ⟨R, v, h1, h2, h3, h4, h5, h6, h7⟩ := h
  have hs : R.size = 0 := by rw [len_size h1]; rfl
  exact take_no 1 g R v m w h2 (by omega) h3
theorem dtake_one (B g : Nat) (r : Option Nat) (c : UInt8) (t o : List UInt8) (m : Nat) (w : World) (h : Dec B w g r (c :: t) o m) :
    Calls Try.prog 39 #[.pointer (some ⟨g, 0, none⟩), .int .i64 1] w fun e w' => e = .returned (.string ⟨#[c]⟩) ∧ Read1 B w g r t o m w' := by
  obtain ⟨R, v, h1, h2, h3, h4, h5, h6, h7⟩ := h
  obtain ⟨e1, e2, e3⟩ := ext_one h1
  refine (take_ok 1 g R v m w h2 e3 h3).mono ?_
  rintro e w' ⟨he, hX, hg⟩
  rw [e1] at he
  exact ⟨he, Dec.grown h4 h5 h6 h7 hg e2 (by rw [ByteArray.size_extract]; omega) hX, two_of_grown hg⟩

theorem fiveD_drop (m : Nat) (o ds : List UInt8) : ∀ l : List UInt8, fiveD m o ds l = fiveD m o ds (l.dropWhile whiteS)
  | [] => rfl
  | c :: t => by
    rw [List.dropWhile_cons]
    by_cases hw : whiteS c = true
    · rw [if_pos hw, fiveD_white _ hw, fiveD_drop m o ds t]
    · rw [if_neg hw]
theorem two_of_drew {w w' : World} {g : Nat} {r : Option Nat} (h : Two w.drew w' g r) : Two w w' g r := ⟨h.os, h.tape, h.output, h.size, h.block⟩
theorem DecEnd.then {B : Nat} {w w1 w' : World} {g : Nat} {r r1 : Option Nat} {m : Nat} {F : Int × List UInt8} {e : Ending} (h : DecEnd B w1 g r1 m F e w') (hr : r1 = r ∨ ∃ k, r1 = some k ∧ w.heap.size ≤ k) (hT : Two w w1 g r) : DecEnd B w g r m F e w' := by
  rcases h with ⟨h1, h2, rest, h3⟩ | ⟨h1, h2, h3⟩
  · exact .inl ⟨h1, h2, rest, Put.then hr hT h3⟩
  · exact .inr ⟨h1, h2, hT.trans h3 hr⟩
/-- The loop of unfive, so far: n digits wait in the array. -/
def FiveTo (B : Nat) (w : World) (g : Nat) (r : Option Nat) (m : Nat) (F : Int × List UInt8) (n : Nat) (wr : World) : Prop :=
  ∃ (r' : Option Nat) (rest o a : List UInt8), (r' = r ∨ ∃ k, r' = some k ∧ w.heap.size ≤ k) ∧ r' ≠ some w.heap.size ∧ Dec B wr g r' rest o m ∧ Two w wr g r ∧ o.length ≤ m ∧ a.length = 5 ∧ n ≤ 4 ∧
    Blk wr w.heap.size 50 (cellsOf a).toArray ∧ w.heap.size < wr.heap.size ∧ F = fiveD m o (a.take n) rest

set_option maxRecDepth 100000 in
set_option maxHeartbeats 4000000 in
theorem put_blk_no {B g : Nat} {r : Option Nat} {rest o : List UInt8} {m : Nat} {cs : Array Value} {t : TypeId} {p cap : Nat} {w : World} (hm : m ≤ 1048576) (hol : o.length ≤ m) (h : Dec B w g r rest o m) (hn : m < o.length + p) :
    Calls Try.prog 37 #[.pointer (some ⟨g, 0, none⟩), .slice (some ⟨w.heap.size, 0, none⟩) p cap] (w.alloc (.cells cs t)) fun e w' => e = gUp 5 ∧ Two w w' g r := by
  refine (put_no B g r rest o m _ p cap _ hm hol (h.alloc _) hn).mono ?_
  rintro e w' ⟨rfl, q, rfl⟩
  exact ⟨rfl, ((Two.refl w g r).alloc _).drewN q⟩
theorem put_blk_ok {B g : Nat} {r : Option Nat} {rest o l : List UInt8} {m : Nat} {cs : Array Value} {t : TypeId} {p cap : Nat} {w : World} (hB : B ≤ w.heap.size) (hm : m ≤ 1048576) (h : Dec B w g r rest o m) (hn : ¬ m < o.length + p) (hp : 0 < p) (hpl : p ≤ l.length) (hl : cs.toList = cellsOf l) :
    Calls Try.prog 37 #[.pointer (some ⟨g, 0, none⟩), .slice (some ⟨w.heap.size, 0, none⟩) p cap] (w.alloc (.cells cs t)) fun e w' => e = .returned (.tuple #[]) ∧ Put B w g r rest (o ++ l.take p) m w' := by
  refine (put_ok B g r rest o (l.take p) m ⟨w.heap.size, 0, none⟩ p cap _ (by simp; omega) hm (by omega) (h.alloc _) (by rw [List.length_take]; omega) hp (news_pre (Blk.new w _ _) hl rfl)).mono ?_
  rintro e w' ⟨rfl, hp⟩
  exact ⟨rfl, Put.then (.inl rfl) ((Two.refl w g r).alloc _) hp⟩
theorem five_next {B : Nat} {w wr w1 : World} {g : Nat} {r r1 : Option Nat} {rest o : List UInt8} {m : Nat} {t : TypeId} {cs : Array Value} (hr : r1 = r ∨ ∃ k, r1 = some k ∧ w.heap.size ≤ k) (hrk : r1 ≠ some w.heap.size) (hT : Two w wr g r) (hS : w.heap.size < wr.heap.size) (hX : Blk wr w.heap.size t cs) (hg : g < w.heap.size) (hp : Put B wr g r1 rest o m w1) :
    ∃ r2, (r2 = r ∨ ∃ k, r2 = some k ∧ w.heap.size ≤ k) ∧ r2 ≠ some w.heap.size ∧ Dec B w1 g r2 rest o m ∧ Two w w1 g r ∧ Blk w1 w.heap.size t cs ∧ w.heap.size < w1.heap.size := by
  obtain ⟨r2, hr2, hd2, ht2⟩ := hp
  refine ⟨r2, ?_, ?_, hd2, hT.trans ht2 hr, ht2.blk hX (by omega) (fun e => hrk e.symm), Nat.lt_of_lt_of_le hS ht2.size⟩
  · rcases hr2 with rfl | ⟨k, rfl, hk⟩
    · exact hr
    · exact .inr ⟨k, rfl, by omega⟩
  · rcases hr2 with rfl | ⟨k, rfl, hk⟩
    · exact hrk
    · intro e
      injection e with e
      omega
theorem make_four (w : World) : (Instr.makeSlice 30 (.int .i64 4) (.int .i64 4)).run Try.prog w = .ok (.slice (some ⟨w.heap.size, 0, none⟩) 4 4) (w.alloc (.cells #[.int .u8 0, .int .u8 0, .int .u8 0, .int .u8 0] 5)) := by kernel_rfl
set_option maxRecDepth 100000 in
set_option maxHeartbeats 4000000 in
theorem unfive_in (B g : Nat) (r : Option Nat) (rest : List UInt8) (m : Nat) (w : World) (hB : B ≤ w.heap.size) (hm : m ≤ 1048576) (F : Int × List UInt8) (hF : F = fiveD m [] [] rest) (h : Dec B w g r rest [] m) :
    Calls Try.prog 21 #[.pointer (some ⟨g, 0, none⟩)] w (DecEnd B w g r m F) := by
  obtain ⟨hg0, hr0⟩ := Dec.lt h
  have HF := Lib.hid hF
  have H := Lib.hid h
  have HG := Lib.hid (And.intro hg0 hr0)
  clear hF h hg0 hr0
  have hmk := make_four
  go_enter Try.func21, Try.ntmps21
  go_wp2_with fail
  go_loopw [3] (fun v wr => ∃ n : Nat, v = .int .i64 (n : Int) ∧ FiveTo B w g r m F n wr) (fun _ wr => restAt wr g)
  case atStart =>
    refine ⟨0, rfl, r, rest, [], [0, 0, 0, 0, 0], .inl rfl, fun e => by have := HG.out.2 _ e; omega, H.out.alloc _, (Two.refl _ _ _).alloc _, by simp, rfl, by omega, Blk.new w _ _, by simp, HF.out⟩
  case round =>
    clear H HF
    obtain ⟨n, rfl, r1, rest1, o, a, hr, hrk, hD, hT, ho, ha, hn4, hX, hS, hF⟩ := hrel
    have HM := Lib.hid (dec_rest hD)
    have HR := Lib.hid hr
    have HRK := Lib.hid hrk
    have HT := Lib.hid hT
    have HD := Lib.hid hD
    have HO := Lib.hid ho
    have HX := Lib.hid hX
    have HS := Lib.hid hS
    have HA := Lib.hid ha
    rw [fiveD_drop] at hF
    clear hr hrk hT hD ho hX hS ha
    rcases hd : rest1.dropWhile whiteS with _ | ⟨c, t⟩
    · rw [hd, fiveD_nil] at hF
      have HDr := Lib.hid hd
      have HF := Lib.hid hF
      clear hd hF
      go_wp2_with fail
      refine (vis_no B g r1 rest1 o m _ HDr.out HD.out).mono ?_
      rintro e w1 ⟨rfl, ht⟩
      refine ⟨rfl, ?_⟩
      exact end_no HR.out HT.out ht HF.out (by decide)
    · rw [hd] at hF
      have hw := drop_white hd
      have HDr := Lib.hid hd
      have HLn := Lib.hid (drop_len _ hd)
      by_cases hz : c = 122 ∧ n = 0
      · obtain ⟨rfl, rfl⟩ := hz
        rw [List.take_zero, fiveD_zeros] at hF
        have HF := Lib.hid hF
        clear hd hF hw
        go_wp2_with fail
        refine (vis_ok B g r1 rest1 o m _ 122 t HDr.out HD.out).mono ?_
        rintro e w1 ⟨rfl, hd1, ht⟩
        have HD1 := Lib.hid hd1
        have HT1 := Lib.hid ht
        clear hd1 ht
        go_wp2_with fail
        by_cases hfull : m < o.length + 4
        · have HF2 := Lib.hid (HF.out.trans (if_pos hfull))
          refine (put_blk_no hm HO.out HD1.out hfull).mono ?_
          rintro e w2 ⟨rfl, ht⟩
          refine ⟨rfl, ?_⟩
          exact end_no HR.out HT.out (HT1.out.trans ht (.inl rfl)) HF2.out (by decide)
        · have HF2 := Lib.hid (HF.out.trans (if_neg hfull))
          refine (put_blk_ok (l := [0, 0, 0, 0]) (Nat.le_trans hB (Nat.le_trans HT.out.size HT1.out.size)) hm HD1.out hfull (by decide) (by decide) rfl).mono ?_
          rintro e w2 ⟨rfl, hp⟩
          obtain ⟨r2, k1, k2, k3, k4, k5, k6⟩ := five_next HR.out HRK.out HT.out HS.out HX.out HG.out.1 (Put.then (.inl rfl) HT1.out hp)
          have HN := Lib.hid (show FiveTo B w g r m F 0 w2 from ⟨r2, t, o ++ [0, 0, 0, 0], a, k1, k2, k3, k4, by rw [List.length_append]; simp; omega, HA.out, by omega, k5, k6, HF2.out⟩)
          have HN2 := Lib.hid (dec_rest k3)
          clear hp k1 k2 k3 k4 k5 k6 HF2
          go_wp2_with fail
          go_roundw
          case rel => exact ⟨0, rfl, HN.out⟩
          case measure => rw [HM.out, HN2.out]; exact HLn.out
      · by_cases hdg : 33 ≤ c.toNat ∧ c.toNat ≤ 117
        · have h122 : ((c.toNat : Int) == 122) = false := asc_ne (fun e => by rw [e] at hdg; exact absurd hdg.2 (by decide))
          have hg1 : (33 : Int) ≤ (c.toNat : Int) := by omega
          have hg2 : (c.toNat : Int) ≤ 117 := by omega
          rw [fiveD_digit _ hdg.1 hdg.2] at hF
          have hal : (a.take n).length = n := by rw [List.length_take, HA.out]; omega
          obtain ⟨y, hy⟩ : ∃ y : Int, (cellsOf a).toArray[n]? = some (.int .u8 y) := by
            have hnl : n < a.length := by rw [HA.out]; omega
            refine ⟨(a[n].toNat : Int), ?_⟩
            unfold cellsOf
            rw [List.getElem?_toArray, List.getElem?_map, List.getElem?_eq_getElem hnl]
            rfl
          have hsub : ((c - 33 : UInt8).toNat : Int) = (c.toNat : Int) - 33 := by rw [UInt8.toNat_sub]; have := c.toNat_lt; show (((256 - 33 + c.toNat) % 256 : Nat) : Int) = _; omega
          have hset : (a.set n (c - 33)).take (n + 1) = a.take n ++ [c - 33] := by
            rw [List.take_set, take_more (by rw [HA.out]; omega), List.set_append_right _ _ (by omega), hal, Nat.sub_self]
            rfl
          have HSub := Lib.hid hsub
          have HSet := Lib.hid hset
          have HY := Lib.hid hy
          have HF := Lib.hid hF
          have HAL := Lib.hid hal
          have j0 : (0 : Int) ≤ (n : Int) := by omega
          have j1 : (n : Int) < 5 := by omega
          clear hd hF hw hsub hset hy hal hz
          go_wp2_with fail
          refine (vis_ok B g r1 rest1 o m _ c t HDr.out HD.out).mono ?_
          rintro e w1 ⟨rfl, hd1, ht⟩
          have hX1 := ht.blk HX.out (by have := HG.out.1; omega) (fun e => HRK.out e.symm)
          have x : w1.cell? ⟨w.heap.size, n, none⟩ = some (.int .u8 y) := (hX1.cell n).trans HY.out
          have f := hX1.frozen n
          have HX1 := Lib.hid hX1
          have HD1 := Lib.hid hd1
          have HT1 := Lib.hid ht
          clear hd1 ht hX1
          by_cases hn3 : n < 4
          · have hn5 : ((n : Int) + 1 == 5) = false := by simp; omega
            have HD2 := Lib.hid (HD1.out.far (k := w.heap.size) (by have := HG.out.1; omega) HRK.out n (.int .u8 ((c.toNat : Int) - 33)))
            have HT2 := Lib.hid ((HT.out.trans HT1.out HR.out).row (k := w.heap.size) (.inr (Nat.le_refl _)) n (.int .u8 ((c.toNat : Int) - 33)))
            have hX2 := HX1.out.set_ n (.int .u8 ((c.toNat : Int) - 33))
            rw [← HSub.out, cells_set, HSub.out] at hX2
            have HX2 := Lib.hid hX2
            have HF2 := Lib.hid (HF.out.trans (if_pos (by rw [HAL.out]; exact hn3)))
            clear hX2
            go_wp2_with fail
            go_roundw
            case rel => exact ⟨n + 1, by go_num, r1, t, o, a.set n (c - 33), HR.out, HRK.out, HD2.out, HT2.out, HO.out, by rw [List.length_set]; exact HA.out, by omega, HX2.out, by have h1 := HS.out; have h2 := HT1.out.size; simp [World.setCell]; omega, by rw [HSet.out]; exact HF2.out⟩
            case measure => rw [HM.out, dec_rest HD2.out]; exact HLn.out
          · obtain rfl : n = 4 := by omega
            have hF2 := HF.out.trans (if_neg (by rw [HAL.out]; omega))
            obtain ⟨a0, a1, a2, a3, a4, rfl⟩ : ∃ a0 a1 a2 a3 a4, a = [a0, a1, a2, a3, a4] := by
              match a, HA.out with
              | [a, b, c, d, e], _ => exact ⟨a, b, c, d, e, rfl⟩
            obtain ⟨z, hz⟩ : ∃ z : UInt8, c - 33 = z := ⟨_, rfl⟩
            have hzs : (z.toNat : Int) = (c.toNat : Int) - 33 := by rw [← hz]; exact HSub.out
            rw [hz] at hF2
            rw [show [a0, a1, a2, a3, a4].take 4 ++ [z] = [a0, a1, a2, a3, z] from rfl] at hF2
            have HD2 := Lib.hid (HD1.out.far (k := w.heap.size) (by have := HG.out.1; omega) HRK.out 4 (.int .u8 ((c.toNat : Int) - 33)))
            have HT2 := Lib.hid ((HT.out.trans HT1.out HR.out).row (k := w.heap.size) (.inr (Nat.le_refl _)) 4 (.int .u8 ((c.toNat : Int) - 33)))
            have HS2 := Lib.hid (show w.heap.size < (w1.setCell ⟨w.heap.size, 4, none⟩ (.int .u8 ((c.toNat : Int) - 33))).heap.size by have h1 := HS.out; have h2 := HT1.out.size; simp [World.setCell]; omega)
            have hX2 := HX1.out.set_ 4 (.int .u8 ((c.toNat : Int) - 33))
            rw [← hzs] at hX2
            have HZ := Lib.hid hzs
            have hX3 : Blk (w1.setCell ⟨w.heap.size, 4, none⟩ (.int .u8 (z.toNat : Int))) w.heap.size 50 #[.int .u8 (a0.toNat : Int), .int .u8 (a1.toNat : Int), .int .u8 (a2.toNat : Int), .int .u8 (a3.toNat : Int), .int .u8 (z.toNat : Int)] := hX2
            rw [hzs] at hX3
            have HX3 := Lib.hid hX3
            obtain ⟨V, hV⟩ : ∃ V, val5 [a0, a1, a2, a3, z] = V := ⟨_, rfl⟩
            rw [hV] at hF2
            have HV := Lib.hid (show v5 [a0, a1, a2, a3, z] = V from hV)
            have HF2 := Lib.hid hF2
            clear hX2 hX3 hV hz hzs hF2
            go_upto_region 10 with fail
            obtain ⟨w2, hw2⟩ : ∃ w2, w1.setCell ⟨w.heap.size, 4, none⟩ (.int .u8 ((c.toNat : Int) - 33)) = w2 := ⟨_, rfl⟩
            rw [hw2] at HD2 HT2 HX3 HS2 ⊢
            have c0 : w2.cell? ⟨w.heap.size, 0, none⟩ = some (.int .u8 (a0.toNat : Int)) := HX3.out.cell 0
            have c1 : w2.cell? ⟨w.heap.size, 1, none⟩ = some (.int .u8 (a1.toNat : Int)) := HX3.out.cell 1
            have c2 : w2.cell? ⟨w.heap.size, 2, none⟩ = some (.int .u8 (a2.toNat : Int)) := HX3.out.cell 2
            have c3 : w2.cell? ⟨w.heap.size, 3, none⟩ = some (.int .u8 (a3.toNat : Int)) := HX3.out.cell 3
            have c4 : w2.cell? ⟨w.heap.size, 4, none⟩ = some (.int .u8 ((c.toNat : Int) - 33)) := HX3.out.cell 4
            have harr : arr5 [a0, a1, a2, a3, z] = .agg #[.int .u8 (a0.toNat : Int), .int .u8 (a1.toNat : Int), .int .u8 (a2.toNat : Int), .int .u8 (a3.toNat : Int), .int .u8 ((c.toNat : Int) - 33)] := by rw [← HZ.out]; rfl
            have HAr := Lib.hid harr
            clear hw2 x f harr
            by_cases hv : 4294967295 < V
            · have HF3 := Lib.hid (HF2.out.trans (if_pos hv))
              go_wp2_with fail
              rw [← HAr.out]
              refine (bytesOf_no _ V _ rfl HV.out hv).mono ?_
              rintro e w3 ⟨rfl, hb⟩
              refine ⟨rfl, ?_⟩
              exact end_no (.inl rfl) (Two.refl _ _ _) (HT2.out.trans (below_two hb) HR.out) HF3.out (by decide)
            · have hF3 := HF2.out.trans (if_neg hv)
              obtain ⟨b0, b1, b2, b3, hb4⟩ : ∃ b0 b1 b2 b3, bytes4 V = [b0, b1, b2, b3] := ⟨_, _, _, _, rfl⟩
              have hb5 : arr5 (bytes4 V) = .agg #[.int .u8 (b0.toNat : Int), .int .u8 (b1.toNat : Int), .int .u8 (b2.toNat : Int), .int .u8 (b3.toNat : Int)] := by rw [hb4]; rfl
              rw [hb4] at hF3
              have HB5 := Lib.hid hb5
              have HF3 := Lib.hid hF3
              clear hF3 hb4 hb5
              go_wp2_with fail
              rw [← HAr.out]
              refine (bytesOf_in _ V _ rfl HV.out (by omega)).mono ?_
              rintro e w3 ⟨rfl, hb⟩
              rw [HB5.out]
              have HD3 := Lib.hid (Dec.below HD2.out hb)
              have HT3 := Lib.hid (HT2.out.trans (below_two hb) HR.out)
              have HX4 := Lib.hid (HX3.out.below hb HS2.out)
              have HS3 := Lib.hid (Nat.lt_of_lt_of_le HS2.out hb.size)
              clear hb
              go_wp2_with fail
              by_cases hfull : m < o.length + 4
              · have HF4 := Lib.hid (HF3.out.trans (if_pos hfull))
                refine (put_blk_no hm HO.out HD3.out hfull).mono ?_
                rintro e w4 ⟨rfl, ht⟩
                refine ⟨rfl, ?_⟩
                exact end_no HR.out HT3.out ht HF4.out (by decide)
              · have HF4 := Lib.hid (HF3.out.trans (if_neg hfull))
                refine (put_blk_ok (l := [b0, b1, b2, b3]) (Nat.le_trans hB HT3.out.size) hm HD3.out hfull (by decide) (by simp) rfl).mono ?_
                rintro e w4 ⟨rfl, hp⟩
                obtain ⟨r2, k1, k2, k3, k4, k5, k6⟩ := five_next HR.out HRK.out HT3.out HS3.out HX4.out HG.out.1 hp
                have HN := Lib.hid (show FiveTo B w g r m F 0 w4 from ⟨r2, t, o ++ [b0, b1, b2, b3], [a0, a1, a2, a3, z], k1, k2, k3, k4, by rw [List.length_append]; simp; omega, rfl, by omega, by rw [← HZ.out] at k5; exact k5, k6, HF4.out⟩)
                have HN2 := Lib.hid (dec_rest k3)
                clear hp k1 k2 k3 k4 k5 k6
                go_wp2_with fail
                go_roundw
                case rel => exact ⟨0, rfl, HN.out⟩
                case measure => rw [HM.out, HN2.out]; exact HLn.out
        · by_cases h126 : c = 126
          · subst h126
            rcases t with _ | ⟨d, u⟩
            · rw [fiveD_cut] at hF
              have HF := Lib.hid hF
              clear hd hF hw
              go_wp2_with fail
              refine (vis_ok B g r1 rest1 o m _ 126 [] HDr.out HD.out).mono ?_
              rintro e w1 ⟨rfl, hd1, ht⟩
              have HD1 := Lib.hid hd1
              have HT1 := Lib.hid ht
              clear hd1 ht
              go_wp2_with fail
              go_region_dies
              all_goals
                refine (dtake_no B g r1 o m _ (by exact HD1.out)).mono ?_
                rintro e w2 ⟨rfl, rfl⟩
                refine ⟨rfl, ?_⟩
                exact end_no HR.out HT.out (HT1.out.drewN _) HF.out (by decide)
            · rw [fiveD_end] at hF
              by_cases hd62 : d = 62
              · subst hd62
                have HF := Lib.hid (hF.trans (if_pos rfl))
                clear hd hF hw
                go_wp2_with fail
                refine (vis_ok B g r1 rest1 o m _ 126 (62 :: u) HDr.out HD.out).mono ?_
                rintro e w1 ⟨rfl, hd1, ht⟩
                have HD1 := Lib.hid hd1
                have HT1 := Lib.hid ht
                clear hd1 ht
                go_wp2_with fail
                have hcut : (ByteArray.mk #[126, 62]).extract 1 2 = ⟨#[62]⟩ := by kernel_rfl
                go_region_held3 (fun _ => True) (first | exact trivial) ((go_at_call 39; refine (dtake_one B g r1 62 u o m _ (by exact HD1.out)).mono ?_; rintro e w2 ⟨rfl, hd2, ht2⟩))
                have HD2 := Lib.hid hd2
                have HT2 := Lib.hid (two_of_drew ht2)
                have hX2 := (HT1.out.trans HT2.out (.inl rfl)).blk HX.out (by have := HG.out.1; omega) (fun e => HRK.out e.symm)
                obtain ⟨a0, a1, a2, a3, a4, rfl⟩ : ∃ a0 a1 a2 a3 a4, a = [a0, a1, a2, a3, a4] := by
                  match a, HA.out with
                  | [a, b, c, d, e], _ => exact ⟨a, b, c, d, e, rfl⟩
                have c0 : w2.cell? ⟨w.heap.size, 0, none⟩ = some (.int .u8 (a0.toNat : Int)) := hX2.cell 0
                have c1 : w2.cell? ⟨w.heap.size, 1, none⟩ = some (.int .u8 (a1.toNat : Int)) := hX2.cell 1
                have c2 : w2.cell? ⟨w.heap.size, 2, none⟩ = some (.int .u8 (a2.toNat : Int)) := hX2.cell 2
                have c3 : w2.cell? ⟨w.heap.size, 3, none⟩ = some (.int .u8 (a3.toNat : Int)) := hX2.cell 3
                have c4 : w2.cell? ⟨w.heap.size, 4, none⟩ = some (.int .u8 (a4.toNat : Int)) := hX2.cell 4
                clear hd2 ht2 hX2
                go_wp2_with fail
                refine (last_in B g r1 u o m [a0, a1, a2, a3, a4] n w2 (Nat.le_trans hB (Nat.le_trans (Nat.le_trans HT.out.size HT1.out.size) HT2.out.size)) hm HO.out rfl hn4 F HF.out HD2.out).mono ?_
                rintro e w3 he
                have HE := Lib.hid (he.then HR.out (HT.out.trans (HT1.out.trans HT2.out (.inl rfl)) HR.out))
                clear he
                rcases HE.out with ⟨_, rfl, _⟩ | ⟨_, rfl, _⟩
                · go_wp2_with fail
                  go_end0
                  exact HE.out
                · exact ⟨rfl, HE.out⟩
              · have hd62' : (d == 62) = false := by simpa using hd62
                have HF := Lib.hid (hF.trans (if_neg hd62))
                clear hd hF hw
                go_wp2_with fail
                refine (vis_ok B g r1 rest1 o m _ 126 (d :: u) HDr.out HD.out).mono ?_
                rintro e w1 ⟨rfl, hd1, ht⟩
                have HD1 := Lib.hid hd1
                have HT1 := Lib.hid ht
                clear hd1 ht
                go_wp2_with fail
                have hcut : (ByteArray.mk #[126, 62]).extract 1 2 = ⟨#[62]⟩ := by kernel_rfl
                go_region_held3 (fun _ => True) (first | exact trivial) ((go_at_call 39; refine (dtake_one B g r1 d u o m _ (by exact HD1.out)).mono ?_; rintro e w2 ⟨rfl, hd2, ht2⟩))
                have HT2 := Lib.hid (two_of_drew ht2)
                clear hd2 ht2
                go_wp2_with fail
                refine (up_any _ _).mono ?_
                rintro e w3 ⟨rfl, rfl⟩
                refine ⟨rfl, ?_⟩
                exact end_no HR.out HT.out (HT1.out.trans HT2.out (.inl rfl)) HF.out (by decide)
          · have h126' : ((c.toNat : Int) == 126) = false := asc_ne h126
            rw [fiveD_bad _ hw h126 (fun e => hz ⟨e.1, by have := congrArg List.length e.2; rw [List.length_take, HA.out] at this; simp at this; omega⟩) hdg] at hF
            have HF := Lib.hid hF
            clear hd hF hw
            by_cases h122 : c = 122
            · subst h122
              have hn0 : ((n : Int) == 0) = false := beq_eq_false_iff_ne.2 fun e => hz ⟨rfl, by omega⟩
              clear hz hdg
              go_wp2_with fail
              refine (vis_ok B g r1 rest1 o m _ 122 t HDr.out HD.out).mono ?_
              rintro e w1 ⟨rfl, hd1, ht⟩
              have HT1 := Lib.hid ht
              clear hd1 ht
              go_wp2_with fail
              refine (up_any _ _).mono ?_
              rintro e w3 ⟨rfl, rfl⟩
              refine ⟨rfl, ?_⟩
              exact end_no HR.out HT.out HT1.out HF.out (by decide)
            · have h122' : ((c.toNat : Int) == 122) = false := asc_ne h122
              by_cases h33 : (33 : Int) ≤ (c.toNat : Int)
              · have h117 : ¬ (c.toNat : Int) ≤ 117 := fun h => hdg ⟨by omega, by omega⟩
                clear hz hdg
                go_wp2_with fail
                refine (vis_ok B g r1 rest1 o m _ c t HDr.out HD.out).mono ?_
                rintro e w1 ⟨rfl, hd1, ht⟩
                have HT1 := Lib.hid ht
                clear hd1 ht
                go_wp2_with fail
                refine (up_any _ _).mono ?_
                rintro e w3 ⟨rfl, rfl⟩
                refine ⟨rfl, ?_⟩
                exact end_no HR.out HT.out HT1.out HF.out (by decide)
              · clear hz hdg
                go_wp2_with fail
                refine (vis_ok B g r1 rest1 o m _ c t HDr.out HD.out).mono ?_
                rintro e w1 ⟨rfl, hd1, ht⟩
                have HT1 := Lib.hid ht
                clear hd1 ht
                go_wp2_with fail
                refine (up_any _ _).mono ?_
                rintro e w3 ⟨rfl, rfl⟩
                refine ⟨rfl, ?_⟩
                exact end_no HR.out HT.out HT1.out HF.out (by decide)
end Go.Proofs.Ythioafndepkhoaa
