/-
  HintTells: Text, Read and Need answer what the document's own answer, whatever the list, the string and the number are (no condition on the arguments).
-/
import Derived.Test.YtkcnhdponcbjaaaHntQh
import Derived.Test.YtkcnhdponcbjaaaHntTp
namespace Go.Proofs.Ytkcnhdponcbjaaa
open Go.ChangeShapes Go.WideShapes Go.ChangeAt Go.RowKit Go.Deep Bt Hnt

theorem decL_len {s : ByteArray} : (readL s).length ≤ 2048 := by
  by_cases h : readE s = 0
  · exact (textE_zero (read_text h).2.1).2.1
  · rw [readL_no h]; exact Nat.zero_le _

set_option maxRecDepth 100000 in
set_option maxHeartbeats 4000000 in
theorem tells_any (A : Option Addr) (cap : Nat) (l : List H3) (s : ByteArray) (m : Int) (w : World) (h : HAt w A l) (hm : -9223372036854775808 ≤ m) (hm2 : m ≤ 9223372036854775807) :
    Calls Try.prog 3 #[.slice A l.length cap, .string s, .int .i64 m] w fun e w' => e = .returned (.bool true) ∧ Below w.heap.size w w' := by
  obtain ⟨N, hN⟩ : ∃ N, w.heap.size = N := ⟨_, rfl⟩
  rw [hN]
  have HS := Lib.hid hN
  have HA := Lib.hid h
  obtain ⟨n, hn⟩ : ∃ n, l.length = n := ⟨_, rfl⟩
  have HNl := Lib.hid hn
  rw [hn]
  have HL := Lib.hid (fun W : World => hlives_any W)
  have HB0 := Lib.hid (show Below N w w ∧ N ≤ w.heap.size from ⟨Below.refl _ _, by rw [HS.out]; exact Nat.le_refl _⟩)
  obtain ⟨E, hE⟩ : ∃ E, textE l = E := ⟨_, rfl⟩
  obtain ⟨R, hR⟩ : ∃ R : ByteArray, ⟨(textB l).toArray⟩ = R := ⟨_, rfl⟩
  obtain ⟨F, hF⟩ : ∃ E, readE s = E := ⟨_, rfl⟩
  obtain ⟨L, hL⟩ : ∃ L, readL s = L := ⟨_, rfl⟩
  obtain ⟨k, hk⟩ : ∃ k, L.length = k := ⟨_, rfl⟩
  have hk2 : k ≤ 2048 := by rw [← hk, ← hL]; exact decL_len
  obtain ⟨d, hd⟩ : ∃ d, needN m = d := ⟨_, rfl⟩
  have PT := Lib.hid (fun (W : World) (hl : n ≤ 1000000000) (h : HAt W A l) => text_c A cap l E R n W h HNl.out hl hE hR)
  have QT := Lib.hid (fun (W : World) (hl : n ≤ 1000000000) (h : HAt W A l) => qtextT_any A cap l W h (by rw [HNl.out]; exact hl))
  rw [hE, hR, hn] at QT
  have PR := Lib.hid (fun (W : World) (hs : s.size ≤ 1000000) => read_c s F L k W (by omega) hF hL hk)
  have QR := Lib.hid (fun (W : World) (hs : s.size ≤ 1000000) => qread_any s W hs)
  rw [hF, hL, hk] at QR
  have PN := Lib.hid (fun W : World => need_any m W hm hm2)
  have QN := Lib.hid (fun W : World => qneed_any m W hm hm2)
  rw [hd] at PN QN
  have PS := Lib.hid (fun (A B : Option Addr) (C D : Nat) (W : World) (h1 : HAt W A L) (h2 : HAt W B L) => hsame_yes L A B C D W (by rw [hk]; omega) h1 h2)
  rw [hk] at PS
  clear hn h hN hE hR hF hL hk hk2 hd hm hm2
  by_cases h1 : 300 < n ∧ n < 2040
  · have t1 : (300 : Int) < (n : Int) := Int.ofNat_lt.2 h1.1
    have t2 : (n : Int) < 2040 := Int.ofNat_lt.2 h1.2
    clear h1
    go_enter Try.func3, Try.ntmps3
    go_wp2_with fail
    refine (HL.out _).mono ?_
    rintro e w1 ⟨rfl, hb⟩
    have HB1 := Lib.hid (hstep HB0.out hb)
    clear hb
    go_wp2_with fail
    go_ret
    exact ⟨rfl, HB1.out.1⟩
  by_cases h2 : 2060 < n
  · have t1 : (300 : Int) < (n : Int) := by omega
    have t2 : ¬ (n : Int) < 2040 := by omega
    have t3 : (2060 : Int) < (n : Int) := by omega
    clear h1 h2
    go_enter Try.func3, Try.ntmps3
    go_wp2_with fail
    refine (HL.out _).mono ?_
    rintro e w1 ⟨rfl, hb⟩
    have HB1 := Lib.hid (hstep HB0.out hb)
    clear hb
    go_wp2_with fail
    go_ret
    exact ⟨rfl, HB1.out.1⟩
  by_cases h3 : 3000 < s.size
  · have t4 : (3000 : Int) < (s.size : Int) := by omega
    have t3 : ¬ (2060 : Int) < (n : Int) := by omega
    rcases (show ¬ (300 : Int) < (n : Int) ∨ ((300 : Int) < (n : Int) ∧ ¬ (n : Int) < 2040) by omega) with t1 | ⟨t1, t2⟩
    · clear h1 h2 h3
      go_enter Try.func3, Try.ntmps3
      go_wp2_with fail
      refine (HL.out _).mono ?_
      rintro e w1 ⟨rfl, hb⟩
      have HB1 := Lib.hid (hstep HB0.out hb)
      clear hb
      go_wp2_with fail
      go_ret
      exact ⟨rfl, HB1.out.1⟩
    · clear h1 h2 h3
      go_enter Try.func3, Try.ntmps3
      go_wp2_with fail
      refine (HL.out _).mono ?_
      rintro e w1 ⟨rfl, hb⟩
      have HB1 := Lib.hid (hstep HB0.out hb)
      clear hb
      go_wp2_with fail
      go_ret
      exact ⟨rfl, HB1.out.1⟩
  have hs : s.size ≤ 1000000 := by omega
  have hl : n ≤ 1000000000 := by omega
  have t4 : ¬ (3000 : Int) < (s.size : Int) := by omega
  have t3 : ¬ (2060 : Int) < (n : Int) := by omega
  rcases (show ¬ (300 : Int) < (n : Int) ∨ ((300 : Int) < (n : Int) ∧ ¬ (n : Int) < 2040) by omega) with t1 | ⟨t1, t2⟩
  · clear h1 h2 h3
    have HT1 := Lib.hid (PT.out w hl HA.out)
    go_enter Try.func3, Try.ntmps3
    go_wp2_with fail
    refine HT1.out.mono ?_
    rintro e w1 ⟨rfl, hb⟩
    have HB1 := Lib.hid (hstep HB0.out hb)
    have HA1 := Lib.hid (HA.out.below hb)
    clear hb
    go_wp2_with fail
    refine (QT.out _ hl HA1.out).mono ?_
    rintro e w2 ⟨rfl, hb⟩
    have HB2 := Lib.hid (hstep HB1.out hb)
    clear hb
    go_wp2_with fail
    refine (PR.out _ hs).mono ?_
    rintro e w3 ⟨⟨A3, c3, rfl, hA3⟩, hb⟩
    have HB3 := Lib.hid (hstep HB2.out hb)
    have HX3 := Lib.hid hA3
    clear hb hA3
    go_wp2_with fail
    refine (QR.out _ hs).mono ?_
    rintro e w4 ⟨⟨A4, c4, rfl, hA4⟩, hb⟩
    have HB4 := Lib.hid (hstep HB3.out hb)
    have HX4 := Lib.hid (HX3.out.below hb)
    have HY4 := Lib.hid hA4
    clear hb hA4
    go_wp2_with fail
    refine (PS.out A3 A4 c3 c4 _ HX4.out HY4.out).mono ?_
    rintro e w5 ⟨rfl, m5, rfl⟩
    have HB5 := Lib.hid (show Below N w (w4.drewN m5) ∧ N ≤ (w4.drewN m5).heap.size from ⟨⟨HB4.out.1.os, HB4.out.1.tape, HB4.out.1.output, HB4.out.1.size, HB4.out.1.block⟩, HB4.out.2⟩)
    go_wp2_with fail
    refine (PN.out _).mono ?_
    rintro e w6 ⟨rfl, rfl⟩
    go_wp2_with fail
    refine (QN.out _).mono ?_
    rintro e w7 ⟨rfl, rfl⟩
    go_wp2_with fail
    refine (HL.out _).mono ?_
    rintro e w8 ⟨rfl, hb⟩
    have HB8 := Lib.hid (hstep HB5.out hb)
    clear hb
    go_wp2_with fail
    go_ret
    exact ⟨rfl, HB8.out.1⟩
  · clear h1 h2 h3
    have HT1 := Lib.hid (PT.out w hl HA.out)
    go_enter Try.func3, Try.ntmps3
    go_wp2_with fail
    refine HT1.out.mono ?_
    rintro e w1 ⟨rfl, hb⟩
    have HB1 := Lib.hid (hstep HB0.out hb)
    have HA1 := Lib.hid (HA.out.below hb)
    clear hb
    go_wp2_with fail
    refine (QT.out _ hl HA1.out).mono ?_
    rintro e w2 ⟨rfl, hb⟩
    have HB2 := Lib.hid (hstep HB1.out hb)
    clear hb
    go_wp2_with fail
    refine (PR.out _ hs).mono ?_
    rintro e w3 ⟨⟨A3, c3, rfl, hA3⟩, hb⟩
    have HB3 := Lib.hid (hstep HB2.out hb)
    have HX3 := Lib.hid hA3
    clear hb hA3
    go_wp2_with fail
    refine (QR.out _ hs).mono ?_
    rintro e w4 ⟨⟨A4, c4, rfl, hA4⟩, hb⟩
    have HB4 := Lib.hid (hstep HB3.out hb)
    have HX4 := Lib.hid (HX3.out.below hb)
    have HY4 := Lib.hid hA4
    clear hb hA4
    go_wp2_with fail
    refine (PS.out A3 A4 c3 c4 _ HX4.out HY4.out).mono ?_
    rintro e w5 ⟨rfl, m5, rfl⟩
    have HB5 := Lib.hid (show Below N w (w4.drewN m5) ∧ N ≤ (w4.drewN m5).heap.size from ⟨⟨HB4.out.1.os, HB4.out.1.tape, HB4.out.1.output, HB4.out.1.size, HB4.out.1.block⟩, HB4.out.2⟩)
    go_wp2_with fail
    refine (PN.out _).mono ?_
    rintro e w6 ⟨rfl, rfl⟩
    go_wp2_with fail
    refine (QN.out _).mono ?_
    rintro e w7 ⟨rfl, rfl⟩
    go_wp2_with fail
    refine (HL.out _).mono ?_
    rintro e w8 ⟨rfl, hb⟩
    have HB8 := Lib.hid (hstep HB5.out hb)
    clear hb
    go_wp2_with fail
    go_ret
    exact ⟨rfl, HB8.out.1⟩

/-! ### The row. -/
theorem hintTells_laidOut : laidOutB Try.prog = true := by kernel_rfl
theorem hintTells_own : ownKnob Try.prog.godebug = none := by kernel_rfl
theorem hintTells_types (t : TypeId) (ht : t ∈ Try.f3.params.toList) : Try.prog.readableRec t = true ∧ t < Try.prog.types.size := by
  rw [Try.params3] at ht
  simp only [List.mem_cons, List.not_mem_nil, or_false] at ht
  rcases ht with rfl | rfl | rfl
  · exact ⟨by kernel_rfl, of_decide_eq_true (by kernel_rfl)⟩
  · exact ⟨by kernel_rfl, of_decide_eq_true (by kernel_rfl)⟩
  · exact ⟨by kernel_rfl, of_decide_eq_true (by kernel_rfl)⟩
theorem hintTells_fn {H : Type} (ds' : List (DataW H)) (h : ds'.length = Try.f3.params.size) : Rows.hintTellsSpec.fn H ds' = { results := [.lit (.bool true)], args := ds' } := by
  have h' : ds'.length = 3 := h.trans (by kernel_rfl)
  match ds', h' with
  | [_, _, _], _ => rfl

set_option maxRecDepth 100000 in
theorem hintTells_lifted (os : Os) (started : os.Started) (H : Type) (enc : TypeId × Value → H) :
    ReturnsInHanded {} Try.checked os 3 .any (Rows.hintTellsSpec.pre6 enc Try.prog Try.f3 Rows.hintTellsRow.domain false) (Rows.hintTellsSpec.post enc Try.prog Try.f3 false true false false) := by
  refine returnsInHanded_of_change_shaped (C := Try.checked) hintTells_own started (by kernel_rfl) Try.func3
    (ChangeSpec.witness6 (enc := enc) (C := Try.checked) false ⟨#[], #[.slice none 0 0, .string ⟨#[]⟩, .int .i64 0], []⟩ 8 (by kernel_rfl) (by kernel_rfl) (by kernel_rfl) (by kernel_rfl)) ?_
  intro W base args ds gs before hval0 hW hcnd0 _ hsh _
  have hval : ∀ (j : Nat) t v, Try.f3.params[j]? = some t → args[j]? = some v → Value.okWide Try.prog W .any base t v := hval0
  have hW' := hW
  obtain ⟨p, q, hA0, hV, rfl, hfz, hnd⟩ := hW
  have hA : DataW.TrodAll enc Try.prog W 0 (fun _ => true) true Try.f3.params.toList args.toList ds p := hA0
  rw [Try.params3] at hA hval
  obtain ⟨v0, vs0, d0, ds0, p0, q0, hargs, rfl, rfl, h0, r0⟩ := trodAll_cons hA
  obtain ⟨v1, vs1, d1, ds1, p1, q1, rfl, rfl, rfl, h1, r1⟩ := trodAll_cons r0
  obtain ⟨v2, vs2, d2, ds2, p2, q2, rfl, rfl, rfl, h2, r2⟩ := trodAll_cons r1
  obtain ⟨rfl, rfl, rfl⟩ := trodAll_nil r2
  obtain rfl : args = #[v0, v1, v2] := by cases args; simp_all
  obtain ⟨rfl, rfl⟩ := trodVars_none hV
  obtain ⟨A0, cap0, l0, rfl, g0⟩ := hints_of (hval 0 22 v0 rfl rfl) h0
  obtain ⟨a1, rfl, rfl, rfl, w1⟩ := Go.ChangeMaps.open_string Try.underlying9 (hval 1 9 v1 rfl rfl) h1
  obtain ⟨a2, rfl, rfl, rfl, w2⟩ := open_int Try.underlying3 (hval 2 3 v2 rfl rfl) h2
  clear hA0 hval0
  refine (tells_any A0 cap0 l0 a1 a2 W g0 (wf_i64 w2).1 (wf_i64 w2).2).mono fun e W' ⟨he, hb⟩ => ?_
  subst he
  exact ⟨_, rfl, post_keep hintTells_laidOut (fun t ht => hintTells_types t ht) rfl hW' (fun ds' hds => hintTells_fn ds' hds) (by kernel_rfl) Try.underlying4 hb⟩

theorem hintTells_holds : Rows.HintTellsSaid :=
  OpenClaim.holds_of_wide 3 Try.f3 rfl rfl rfl rfl rfl rfl rfl ⟨rfl, rfl, rfl, rfl, rfl⟩ rfl rfl rfl rfl rfl (by kernel_rfl) Try.func3 (by kernel_rfl)
    (of_decide_eq_true (by kernel_rfl)) (by unfold Func.isWrapper; first | (rw [if_pos (by decide +kernel)]; kernel_rfl) | (rw [if_neg (by decide +kernel)]; exact ⟨rfl, rfl⟩))
    (fun os started H enc _ => hintTells_lifted os started H enc)
end Go.Proofs.Ytkcnhdponcbjaaa
