/-
  HintBack: Read returns the list that Text encoded, and a truncated or extended encoding gives an error, whatever the list is.
-/
import Derived.Test.YtkcnhdponcbjaaaHntLv
import Derived.Test.YtkcnhdponcbjaaaHntSm
import Derived.Test.YtkcnhdponcbjaaaHntP
import Derived.Test.YtkcnhdponcbjaaaRowKeep
import Derived.HandedShaped
import Derived.OpenShut
import Derived.ChangeMaps5
namespace Go.Proofs.Ytkcnhdponcbjaaa
open Go.ChangeShapes Go.WideShapes Go.ChangeAt Go.RowKit Go.Deep Bt Hnt

/-- What Read answers to a text, to a text with more behind it, and to a text cut short. -/
structure Backs (l : List H3) (R : ByteArray) : Prop where
  size : 22 ≤ R.size ∧ R.size ≤ 20000
  whole : readE R = 0 ∧ readL R = l
  more : ∀ M : ByteArray, M.size ≠ 0 → readE (R ++ M) = 32
  none : ∀ M : ByteArray, M.size = 0 → R ++ M = R
  less : ∀ k, k < R.size → readE (R.extract 0 k) = 32
theorem size_list (s : ByteArray) : s.data.toList.length = s.size := by simp
theorem backs_of {l : List H3} {R : ByteArray} (hE : textE l = 0) (hR : R.data.toList = textB l) : Backs l R := by
  have hs : R.size = (textB l).length := by rw [← size_list, hR]
  have hb := textB_len hE
  refine ⟨by omega, read_back hE hR, fun M hM => ?_, fun M hM => ?_, fun k hk => ?_⟩
  · refine read_more (rest := M.data.toList) hE (by rw [ByteArray.data_append, Array.toList_append, hR]) ?_
    intro e
    rw [← size_list, e] at hM
    exact hM rfl
  · have : M.data = #[] := by
      rw [← size_list] at hM
      exact Array.toList_inj.1 (List.length_eq_zero_iff.1 hM)
    cases M
    simp only at this
    subst this
    cases R
    simp [ByteArray.ext_iff]
  · refine read_less (rest := (textB l).drop k) hE ?_ ?_
    · have : (R.extract 0 k).data.toList = (textB l).take k := by
        rw [ByteArray.data_extract, Array.toList_extract, hR]
        simp
      rw [this, List.take_append_drop]
    · intro e
      have := List.drop_eq_nil_iff.1 e
      omega

set_option maxRecDepth 100000 in
set_option maxHeartbeats 4000000 in
theorem back_any (A : Option Addr) (cap : Nat) (l : List H3) (M : ByteArray) (w : World) (h : HAt w A l) : Calls Try.prog 4 #[.slice A l.length cap, .string M] w fun e w' => e = .returned (.bool true) ∧ Below w.heap.size w w' := by
  obtain ⟨N, hN⟩ : ∃ N, w.heap.size = N := ⟨_, rfl⟩
  have HL := Lib.hid (hlives_any w)
  rw [hN] at HL ⊢
  have HS := Lib.hid hN
  have HA := Lib.hid h
  obtain ⟨n, hn⟩ : ∃ n, l.length = n := ⟨_, rfl⟩
  have HNl := Lib.hid hn
  rw [hn]
  clear hN h hn
  by_cases hz : 300 < n
  · have hz' : (300 : Int) < (n : Int) := by omega
    clear hz
    go_enter Try.func4, Try.ntmps4
    go_wp2_with fail
    refine HL.out.mono ?_
    rintro e w1 ⟨rfl, hb⟩
    have HB := Lib.hid hb
    clear hb
    go_wp2_with fail
    go_ret
    exact ⟨rfl, HB.out⟩
  by_cases hm : 100 < M.size
  · have hz' : ¬ (300 : Int) < (n : Int) := by omega
    have hm' : (100 : Int) < (M.size : Int) := by omega
    clear hz hm
    go_enter Try.func4, Try.ntmps4
    go_wp2_with fail
    refine HL.out.mono ?_
    rintro e w1 ⟨rfl, hb⟩
    have HB := Lib.hid hb
    clear hb
    go_wp2_with fail
    go_ret
    exact ⟨rfl, HB.out⟩
  have hz' : ¬ (300 : Int) < (n : Int) := by omega
  have hm' : ¬ (100 : Int) < (M.size : Int) := by omega
  obtain ⟨E, hE⟩ : ∃ E, textE l = E := ⟨_, rfl⟩
  obtain ⟨R, hR⟩ : ∃ R : ByteArray, ⟨(textB l).toArray⟩ = R := ⟨_, rfl⟩
  have PT := Lib.hid (fun (W : World) (h : HAt W A l) => text_c A cap l E R n W h HNl.out (by omega) hE hR)
  by_cases h0 : E = 0
  · subst h0
    have hB := backs_of hE (bytes_of hR)
    obtain ⟨s1, s2⟩ := hB.size
    have PR := Lib.hid (fun W : World => read_c R 0 l n W (by omega) hB.whole.1 hB.whole.2 HNl.out)
    have PZ := Lib.hid (fun (k : Nat) (hk : k < R.size) (W : World) => read_c (R.extract 0 k) 32 [] 0 W (by rw [ByteArray.size_extract]; omega) (hB.less k hk) (no_L (hB.less k hk)) rfl)
    have PS := Lib.hid (fun (A B : Option Addr) (C D : Nat) (W : World) (h1 : HAt W A l) (h2 : HAt W B l) => hsame_yes l A B C D W (by rw [HNl.out]; omega) h1 h2)
    rw [HNl.out] at PS
    have q1 : ¬ 9223372036854775807 < R.size + M.size := by omega
    by_cases h1 : M.size = 0
    · have PM := Lib.hid (hB.none M h1)
      have hmt : M.toList = [] := by rw [Lib.toList_data]; exact List.length_eq_zero_iff.1 ((size_list M).trans h1)
      clear hz hm hE hR hB
      go_enter Try.func4, Try.ntmps4
      go_wp2_with fail
      refine HL.out.mono ?_
      rintro e w1 ⟨rfl, hb⟩
      have HB := Lib.hid hb
      have HA1 := Lib.hid (HA.out.below (HS.out ▸ hb))
      have PT1 := Lib.hid (PT.out w1 HA1.out)
      have HS1 := Lib.hid (show N ≤ w1.heap.size by have := hb.size; rw [HS.out] at this; exact this)
      clear hb
      go_wp2_with fail
      refine PT1.out.mono ?_
      rintro e w2 ⟨rfl, hb⟩
      have HB2 := Lib.hid (HB.out.trans (hb.mono HS1.out))
      have HA2 := Lib.hid (HA1.out.below hb)
      have HS2 := Lib.hid (Nat.le_trans HS1.out hb.size)
      clear hb
      go_wp2_with fail
      refine (PR.out _).mono ?_
      rintro e w3 ⟨⟨A3, c3, rfl, hA3⟩, hb⟩
      have HB3 := Lib.hid (HB2.out.trans (hb.mono HS2.out))
      have HA3 := Lib.hid (HA2.out.below hb)
      have HX3 := Lib.hid hA3
      have HS3 := Lib.hid (Nat.le_trans HS2.out hb.size)
      clear hb hA3
      go_wp2_with fail
      rw [PM.out]
      refine (PR.out _).mono ?_
      rintro e w4 ⟨⟨A4, c4, rfl, _⟩, hb⟩
      have HB4 := Lib.hid (HB3.out.trans (hb.mono HS3.out))
      have HA4 := Lib.hid (HA3.out.below hb)
      have HX4 := Lib.hid (HX3.out.below hb)
      have HS4 := Lib.hid (Nat.le_trans HS3.out hb.size)
      clear hb
      go_wp2_with fail
      refine (PZ.out (R.size - 1) (by omega) _).mono ?_
      rintro e w5 ⟨⟨A5, c5, rfl, _⟩, hb⟩
      have HB5 := Lib.hid (HB4.out.trans (hb.mono HS4.out))
      have HA5 := Lib.hid (HA4.out.below hb)
      have HX5 := Lib.hid (HX4.out.below hb)
      have HS5 := Lib.hid (Nat.le_trans HS4.out hb.size)
      clear hb
      go_wp2_with fail
      refine (PS.out A3 A c3 cap w5 HX5.out HA5.out).mono ?_
      rintro e w6 ⟨rfl, m6, rfl⟩
      go_wp2_with fail
      go_ret
      exact ⟨rfl, ⟨HB5.out.os, HB5.out.tape, HB5.out.output, HB5.out.size, HB5.out.block⟩⟩
    · have PM := Lib.hid (fun W : World => read_c (R ++ M) 32 [] 0 W (by rw [ByteArray.size_append]; omega) (hB.more M h1) (no_L (hB.more M h1)) rfl)
      have hmt : ¬ M.toList = [] := by rw [Lib.toList_data]; exact fun e => h1 ((size_list M).symm.trans (by rw [e]; rfl))
      clear hz hm hE hR hB
      go_enter Try.func4, Try.ntmps4
      go_wp2_with fail
      refine HL.out.mono ?_
      rintro e w1 ⟨rfl, hb⟩
      have HB := Lib.hid hb
      have HA1 := Lib.hid (HA.out.below (HS.out ▸ hb))
      have PT1 := Lib.hid (PT.out w1 HA1.out)
      have HS1 := Lib.hid (show N ≤ w1.heap.size by have := hb.size; rw [HS.out] at this; exact this)
      clear hb
      go_wp2_with fail
      refine PT1.out.mono ?_
      rintro e w2 ⟨rfl, hb⟩
      have HB2 := Lib.hid (HB.out.trans (hb.mono HS1.out))
      have HA2 := Lib.hid (HA1.out.below hb)
      have HS2 := Lib.hid (Nat.le_trans HS1.out hb.size)
      clear hb
      go_wp2_with fail
      refine (PR.out _).mono ?_
      rintro e w3 ⟨⟨A3, c3, rfl, hA3⟩, hb⟩
      have HB3 := Lib.hid (HB2.out.trans (hb.mono HS2.out))
      have HA3 := Lib.hid (HA2.out.below hb)
      have HX3 := Lib.hid hA3
      have HS3 := Lib.hid (Nat.le_trans HS2.out hb.size)
      clear hb hA3
      go_wp2_with fail
      refine (PM.out _).mono ?_
      rintro e w4 ⟨⟨A4, c4, rfl, _⟩, hb⟩
      have HB4 := Lib.hid (HB3.out.trans (hb.mono HS3.out))
      have HA4 := Lib.hid (HA3.out.below hb)
      have HX4 := Lib.hid (HX3.out.below hb)
      have HS4 := Lib.hid (Nat.le_trans HS3.out hb.size)
      clear hb
      go_wp2_with fail
      refine (PZ.out (R.size - 1) (by omega) _).mono ?_
      rintro e w5 ⟨⟨A5, c5, rfl, _⟩, hb⟩
      have HB5 := Lib.hid (HB4.out.trans (hb.mono HS4.out))
      have HA5 := Lib.hid (HA4.out.below hb)
      have HX5 := Lib.hid (HX4.out.below hb)
      have HS5 := Lib.hid (Nat.le_trans HS4.out hb.size)
      clear hb
      go_wp2_with fail
      refine (PS.out A3 A c3 cap w5 HX5.out HA5.out).mono ?_
      rintro e w6 ⟨rfl, m6, rfl⟩
      go_wp2_with fail
      go_ret
      exact ⟨rfl, ⟨HB5.out.os, HB5.out.tape, HB5.out.output, HB5.out.size, HB5.out.block⟩⟩
  · have hR2 : R = ⟨#[]⟩ := by rw [← hR, textB_no (by rw [hE]; exact h0)]
    subst hR2
    clear hz hm hE hR
    go_enter Try.func4, Try.ntmps4
    go_wp2_with fail
    refine HL.out.mono ?_
    rintro e w1 ⟨rfl, hb⟩
    have HB := Lib.hid hb
    have PT1 := Lib.hid (PT.out w1 (HA.out.below (HS.out ▸ hb)))
    have HS1 := Lib.hid (show N ≤ w1.heap.size by have := hb.size; rw [HS.out] at this; exact this)
    clear hb
    go_wp2_with fail
    refine PT1.out.mono ?_
    rintro e w2 ⟨rfl, hb⟩
    have HB2 := Lib.hid (HB.out.trans (hb.mono HS1.out))
    clear hb
    go_wp2_with fail
    go_ret
    exact ⟨rfl, HB2.out⟩

/-! ### The row. -/
theorem hintBack_laidOut : laidOutB Try.prog = true := by kernel_rfl
theorem hintBack_own : ownKnob Try.prog.godebug = none := by kernel_rfl
theorem hintBack_types (t : TypeId) (ht : t ∈ Try.f4.params.toList) : Try.prog.readableRec t = true ∧ t < Try.prog.types.size := by
  rw [Try.params4] at ht
  simp only [List.mem_cons, List.not_mem_nil, or_false] at ht
  rcases ht with rfl | rfl
  · exact ⟨by kernel_rfl, of_decide_eq_true (by kernel_rfl)⟩
  · exact ⟨by kernel_rfl, of_decide_eq_true (by kernel_rfl)⟩
theorem hintBack_fn {H : Type} (ds' : List (DataW H)) (h : ds'.length = Try.f4.params.size) : Rows.hintBackSpec.fn H ds' = { results := [.lit (.bool true)], args := ds' } := by
  have h' : ds'.length = 2 := h.trans (by kernel_rfl)
  match ds', h' with
  | [_, _], _ => rfl

set_option maxRecDepth 100000 in
theorem hintBack_lifted (os : Os) (started : os.Started) (H : Type) (enc : TypeId × Value → H) :
    ReturnsInHanded {} Try.checked os 4 .any (Rows.hintBackSpec.pre6 enc Try.prog Try.f4 Rows.hintBackRow.domain false) (Rows.hintBackSpec.post enc Try.prog Try.f4 false true false false) := by
  refine returnsInHanded_of_change_shaped (C := Try.checked) hintBack_own started (by kernel_rfl) Try.func4
    (ChangeSpec.witness6 (enc := enc) (C := Try.checked) false ⟨#[], #[.slice none 0 0, .string ⟨#[]⟩], []⟩ 8 (by kernel_rfl) (by kernel_rfl) (by kernel_rfl) (by kernel_rfl)) ?_
  intro W base args ds gs before hval0 hW hcnd0 _ hsh _
  have hval : ∀ (j : Nat) t v, Try.f4.params[j]? = some t → args[j]? = some v → Value.okWide Try.prog W .any base t v := hval0
  have hW' := hW
  obtain ⟨p, q, hA0, hV, rfl, hfz, hnd⟩ := hW
  have hA : DataW.TrodAll enc Try.prog W 0 (fun _ => true) true Try.f4.params.toList args.toList ds p := hA0
  rw [Try.params4] at hA hval
  obtain ⟨v0, vs0, d0, ds0, p0, q0, hargs, rfl, rfl, h0, r0⟩ := trodAll_cons hA
  obtain ⟨v1, vs1, d1, ds1, p1, q1, rfl, rfl, rfl, h1, r1⟩ := trodAll_cons r0
  obtain ⟨rfl, rfl, rfl⟩ := trodAll_nil r1
  obtain rfl : args = #[v0, v1] := by cases args; simp_all
  obtain ⟨rfl, rfl⟩ := trodVars_none hV
  obtain ⟨A0, cap0, l0, rfl, g0⟩ := hints_of (hval 0 22 v0 rfl rfl) h0
  obtain ⟨a1, rfl, rfl, rfl, w1⟩ := Go.ChangeMaps.open_string Try.underlying9 (hval 1 9 v1 rfl rfl) h1
  clear hA0 hval0
  refine (back_any A0 cap0 l0 a1 W g0).mono fun e W' ⟨he, hb⟩ => ?_
  subst he
  exact ⟨_, rfl, post_keep hintBack_laidOut (fun t ht => hintBack_types t ht) rfl hW' (fun ds' hds => hintBack_fn ds' hds) (by kernel_rfl) Try.underlying4 hb⟩

theorem hintBack_holds : Rows.HintBackSaid :=
  OpenClaim.holds_of_wide 4 Try.f4 rfl rfl rfl rfl rfl rfl rfl ⟨rfl, rfl, rfl, rfl, rfl⟩ rfl rfl rfl rfl rfl (by kernel_rfl) Try.func4 (by kernel_rfl)
    (of_decide_eq_true (by kernel_rfl)) (by unfold Func.isWrapper; first | (rw [if_pos (by decide +kernel)]; kernel_rfl) | (rw [if_neg (by decide +kernel)]; exact ⟨rfl, rfl⟩))
    (fun os started H enc _ => hintBack_lifted os started H enc)
end Go.Proofs.Ytkcnhdponcbjaaa
