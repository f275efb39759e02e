/-
  For every string OctetKinds returns true and leaves its argument as it was (no condition).
-/
import Derived.Test.YtbpmfkikkocbhabOctE
import Derived.Test.YtbpmfkikkocbhabRowEnd
import Derived.HandedShaped
import Derived.ProofKit
namespace Go.Proofs.Ytbpmfkikkocbhab
open Go.ChangeShapes Go.WideShapes Go.ChangeAt Go.RowKit Oct
open Go.ChangeMaps (open_string shut_string)

theorem hexB_size (s : ByteArray) : (hexB s).size = 2 * s.size := by
  rw [← size_len (hexB s), ← size_len s]
  exact hexS_length _
theorem unhex_hexB (s : ByteArray) : unhexT (hexB s) = s ∧ unhexE (hexB s) = 0 := by
  have h : unhexS (hexB s).data.toList = some s.data.toList := unhex_hex _
  refine ⟨(unhexE_some h).1.trans ?_, (unhexE_some h).2⟩
  obtain ⟨⟨l⟩⟩ := s
  rfl
theorem kind_of (c : UInt8) : (whiteS c = true ∧ delimS c = false ∧ regularS c = false ∧ digitS c < 0) ∨ (whiteS c = false ∧ delimS c = true ∧ regularS c = false ∧ digitS c < 0) ∨
    (whiteS c = false ∧ delimS c = false ∧ regularS c = true ∧ 0 ≤ digitS c) ∨ (whiteS c = false ∧ delimS c = false ∧ regularS c = true ∧ digitS c < 0) := by
  have hd := digit_regular c
  have hwd := white_delim c
  unfold regularS at hd ⊢
  cases hw : whiteS c <;> cases hl : delimS c <;> simp_all <;> omega

set_option maxRecDepth 100000 in
set_option maxHeartbeats 2000000 in
theorem kinds_small (s : ByteArray) (w : World) (hs : s.size ≤ 3000) (hm : MaxLenAt w) :
    Calls Try.prog 4 #[.string s] w fun e w' => e = .returned (.bool true) ∧ Below w.heap.size w w' := by
  go_enter Try.func4, Try.ntmps4
  go_wp2_with fail
  refine (lives_any _ hm).mono ?_
  rintro e w1 ⟨rfl, hb1⟩
  clear hm
  go_wp2_with fail
  go_loop [3] (fun i => ∃ k : Nat, k ≤ s.size ∧ i = .int .i64 k) (fun i => s.size - (intOf i).toNat)
  case atStart => exact ⟨0, by omega, rfl⟩
  case round =>
    obtain ⟨k, hk, rfl⟩ := hrel
    by_cases hlt : k < s.size
    · have d1 := digit_le s[k]
      rcases kind_of s[k] with ⟨h1, h2, h3, h4⟩ | ⟨h1, h2, h3, h4⟩ | ⟨h1, h2, h3, h4⟩ | ⟨h1, h2, h3, h4⟩
      all_goals
        go_wp2_with (first | (go_at_call 10; refine (white_any _ _).mono ?_; rintro e w' ⟨rfl, rfl⟩) | (go_at_call 12; refine (delim_any _ _).mono ?_; rintro e w' ⟨rfl, rfl⟩) | (go_at_call 14; refine (regular_any _ _).mono ?_; rintro e w' ⟨rfl, rfl⟩) | (go_at_call 16; refine (digit_any _ _).mono ?_; rintro e w' ⟨rfl, rfl⟩))
        go_round
        case rel => exact ⟨k + 1, by omega, by go_num⟩
        case measure => simp [intOf]; omega
    · have hz : ((hexB s).size : Int) = 2 * (s.size : Int) := by rw [hexB_size]; omega
      go_wp2_with fail
      refine (hex_any s _ (by omega)).mono ?_
      rintro e w2 ⟨rfl, hb2⟩
      go_wp2_with fail
      refine (unhex_c (hexB s) s 0 _ (by rw [hexB_size]; omega) (unhex_hexB s).1 (unhex_hexB s).2).mono ?_
      rintro e w3 ⟨rfl, hb3⟩
      go_wp2_with fail
      go_ret
      exact ⟨rfl, (hb1.trans (hb2.mono hb1.size)).trans (hb3.mono (Nat.le_trans hb1.size hb2.size))⟩

theorem kinds_large (s : ByteArray) (w : World) (hs : 3000 < s.size) (hm : MaxLenAt w) :
    Calls Try.prog 4 #[.string s] w fun e w' => e = .returned (.bool true) ∧ Below w.heap.size w w' := by
  go_enter Try.func4, Try.ntmps4
  go_wp2_with fail
  refine (lives_any _ hm).mono ?_
  rintro e w1 ⟨rfl, hb1⟩
  clear hm
  go_wp2_with fail
  go_ret
  exact ⟨rfl, hb1⟩

theorem kinds_any (s : ByteArray) (w : World) (hm : MaxLenAt w) :
    Calls Try.prog 4 #[.string s] w fun e w' => e = .returned (.bool true) ∧ Below w.heap.size w w' := by
  by_cases h : s.size ≤ 3000
  · exact kinds_small s w h hm
  · exact kinds_large s w (by omega) hm

theorem own : ownKnob Try.prog.godebug = none := by kernel_rfl
theorem maxLen_of {W : World} (hsh : W.ShapedOpen Try.prog) : MaxLenAt W := Try.laysM143.s1_3 W hsh

set_option maxRecDepth 100000 in
theorem kinds_lifted (os : Os) (started : os.Started) (H : Type) (enc : TypeId × Value → H) :
    ReturnsInHanded {} Try.checked os 4 .any (Rows.octetKindsSpec.pre6 enc Try.prog Try.f4 Rows.octetKindsRow.domain false) (Rows.octetKindsSpec.post enc Try.prog Try.f4 false true false false) := by
  refine returnsInHanded_of_change_shaped (C := Try.checked) own started (by kernel_rfl) Try.func4
    (ChangeSpec.witness6 (enc := enc) (C := Try.checked) false ⟨#[], #[.string ⟨#[]⟩], []⟩ 8 (by kernel_rfl) (by kernel_rfl) (by kernel_rfl) (by kernel_rfl)) ?_
  intro W base args ds gs before hval0 hW hcnd0 _ hsh _
  have hval : ∀ (j : Nat) t v, Try.f4.params[j]? = some t → args[j]? = some v → Value.okWide Try.prog W .any base t v := hval0
  have hW' := hW
  obtain ⟨p, q, hA0, hV, rfl, hfz, hnd⟩ := hW
  have hA : DataW.TrodAll enc Try.prog W 0 (fun _ => true) true Try.f4.params.toList args.toList ds p := hA0
  rw [Try.params4] at hA hval
  obtain ⟨v0, d0, rfl, rfl, h0⟩ := trodAll_one hA
  obtain ⟨rfl, rfl⟩ := trodVars_none hV
  obtain ⟨s, rfl, rfl, rfl, ws⟩ := open_string Try.underlying9 (hval 0 9 v0 rfl rfl) h0
  clear hA0 hval0
  simp only [List.append_nil] at hW'
  refine (kinds_any s W (maxLen_of hsh)).mono fun e W' ⟨he, hb⟩ => ?_
  subst he
  exact ⟨_, rfl, post_new hW' (fun _ _ _ => trodAll_mk1 (shut_bool Try.underlying4 _)) (fun _ => trodAll_mk1 (shut_string Try.underlying9 ws)) (fun _ => rfl) hb
    (ok_one (by kernel_rfl) rfl (okWide_bool_mk Try.underlying4 _))⟩

theorem octetKinds_holds : Rows.OctetKindsSaid :=
  OpenClaim.holds_of_wide 4 Try.f4 rfl rfl rfl rfl rfl rfl rfl ⟨rfl, rfl, rfl, rfl, rfl⟩ rfl rfl rfl rfl rfl (by kernel_rfl) Try.func4 (by kernel_rfl)
    (of_decide_eq_true (by kernel_rfl)) (by unfold Func.isWrapper; first | (rw [if_pos (by decide +kernel)]; kernel_rfl) | (rw [if_neg (by decide +kernel)]; exact ⟨rfl, rfl⟩))
    (fun os started H enc _ => kinds_lifted os started H enc)
end Go.Proofs.Ytbpmfkikkocbhab
