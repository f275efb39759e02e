/-
  For every string, every remark and every offset OctetSkips returns true and leaves its arguments as they were (no condition).
-/
import Derived.Test.YtbpmfkikkocbhabOctSa
import Derived.Test.YtbpmfkikkocbhabOctSb
import Derived.Test.YtbpmfkikkocbhabRowEnd
import Derived.HandedShaped
namespace Go.Proofs.Ytbpmfkikkocbhab
open Go.ChangeShapes Go.WideShapes Go.ChangeAt Go.RowKit Oct
open Go.ChangeMaps (open_string shut_string)

/-- Where Skip and Line stop, as the walks ask it. -/
theorem skip_facts (s : ByteArray) (a : Nat) (ha : a ≤ s.size) : ∃ K : Nat, skipS s.data.toList a = (K : Int) ∧ a ≤ K ∧ skipS s.data.toList K = (K : Int) ∧ K ≤ s.size ∧ ∀ h : K < s.size, whiteS s[K] = false ∧ ((s[K].toNat : Int) == 37) = false := by
  have hl := skipN_le false (s.data.toList.drop a)
  rw [List.length_drop, size_len] at hl
  have h1 : skipS s.data.toList a = ((a + skipN false (s.data.toList.drop a) : Nat) : Int) := by
    unfold skipS
    rw [if_neg (by rw [size_len]; omega), Int.toNat_natCast, Int.natCast_add]
  refine ⟨_, h1, by omega, ?_, by omega, fun h => ?_⟩
  · unfold skipS
    rw [if_neg (by rw [size_len]; omega), Int.toNat_natCast, ← List.drop_drop, skip_idem]
    rfl
  · obtain ⟨c, t, e, hw, hc⟩ := skip_at (s.data.toList.drop a) (by rw [List.length_drop, size_len]; omega)
    rw [List.drop_drop, drop_at (by rw [size_len]; exact h)] at e
    have e1 : s[a + skipN false (s.data.toList.drop a)]'h = c := (List.cons.inj e).1
    rw [e1]
    refine ⟨hw, ?_⟩
    rw [beq_eq_false_iff_ne]
    intro h37
    exact hc (UInt8.toNat_inj.1 (by have e3 : (37 : UInt8).toNat = 37 := rfl; omega))
theorem line_facts (s : ByteArray) (a : Nat) (ha : a ≤ s.size) : ∃ M : Nat, lineS s.data.toList a = (M : Int) ∧ a ≤ M ∧ M ≤ s.size ∧ (M < s.size → a < M ∧ ∀ b : M - 1 < s.size, (((s[M - 1]'b).toNat : Int) == 13) = true ∨ ((((s[M - 1]'b).toNat : Int) == 13) = false ∧ (((s[M - 1]'b).toNat : Int) == 10) = true)) := by
  have hl := lineN_le (s.data.toList.drop a)
  rw [List.length_drop, size_len] at hl
  have h1 : lineS s.data.toList a = ((a + lineN (s.data.toList.drop a) : Nat) : Int) := by
    unfold lineS
    rw [if_neg (by rw [size_len]; omega), Int.toNat_natCast, Int.natCast_add]
  refine ⟨_, h1, by omega, by omega, fun h => ?_⟩
  obtain ⟨h2, h3⟩ := line_at (s.data.toList.drop a) (by rw [List.length_drop, size_len]; omega)
  refine ⟨by omega, fun b => ?_⟩
  rw [List.getElem?_drop, show a + (lineN (s.data.toList.drop a) - 1) = a + lineN (s.data.toList.drop a) - 1 by omega, List.getElem?_eq_getElem (by rw [size_len]; exact b)] at h3
  have e : s.data.toList[a + lineN (s.data.toList.drop a) - 1]'(by rw [size_len]; exact b) = s[a + lineN (s.data.toList.drop a) - 1]'b := rfl
  rw [e] at h3
  rcases h3 with h3 | h3
  · right
    rw [Option.some.inj h3]
    exact ⟨rfl, rfl⟩
  · left
    rw [Option.some.inj h3]
    rfl

theorem skips_long (s r : ByteArray) (a : Int) (w : World) (hm : MaxLenAt w) (h1 : 3000 < s.size) :
    Calls Try.prog 5 #[.string s, .string r, .int .i64 a] w fun e w' => e = .returned (.bool true) ∧ Below w.heap.size w w' := by
  go_enter Try.func5, Try.ntmps5
  go_wp2_with fail
  refine (lives_any _ hm).mono ?_
  rintro e w1 ⟨rfl, hb1⟩
  clear hm
  go_wp2_with fail
  go_ret
  exact ⟨rfl, hb1⟩

theorem skips_wide (s r : ByteArray) (a : Int) (w : World) (hm : MaxLenAt w) (h1 : s.size ≤ 3000) (h2 : 300 < r.size) :
    Calls Try.prog 5 #[.string s, .string r, .int .i64 a] w fun e w' => e = .returned (.bool true) ∧ Below w.heap.size w w' := by
  go_enter Try.func5, Try.ntmps5
  go_wp2_with fail
  refine (lives_any _ hm).mono ?_
  rintro e w1 ⟨rfl, hb1⟩
  clear hm
  go_wp2_with fail
  go_ret
  exact ⟨rfl, hb1⟩

theorem skips_under (s r : ByteArray) (a : Int) (w : World) (hm : MaxLenAt w) (h1 : s.size ≤ 3000) (h2 : r.size ≤ 300) (h3 : a < 0) :
    Calls Try.prog 5 #[.string s, .string r, .int .i64 a] w fun e w' => e = .returned (.bool true) ∧ Below w.heap.size w w' := by
  go_enter Try.func5, Try.ntmps5
  go_wp2_with fail
  refine (lives_any _ hm).mono ?_
  rintro e w1 ⟨rfl, hb1⟩
  clear hm
  go_wp2_with fail
  go_ret
  exact ⟨rfl, hb1⟩

theorem skips_over (s r : ByteArray) (a : Int) (w : World) (hm : MaxLenAt w) (h1 : s.size ≤ 3000) (h2 : r.size ≤ 300) (h3 : 0 ≤ a) (h4 : (s.size : Int) < a) :
    Calls Try.prog 5 #[.string s, .string r, .int .i64 a] w fun e w' => e = .returned (.bool true) ∧ Below w.heap.size w w' := by
  go_enter Try.func5, Try.ntmps5
  go_wp2_with fail
  refine (lives_any _ hm).mono ?_
  rintro e w1 ⟨rfl, hb1⟩
  clear hm
  go_wp2_with fail
  go_ret
  exact ⟨rfl, hb1⟩

theorem skips_any (s r : ByteArray) (a : Int) (w : World) (hm : MaxLenAt w) :
    Calls Try.prog 5 #[.string s, .string r, .int .i64 a] w fun e w' => e = .returned (.bool true) ∧ Below w.heap.size w w' := by
  by_cases h1 : s.size ≤ 3000
  · by_cases h2 : r.size ≤ 300
    · by_cases h3 : a < 0
      · exact skips_under s r a w hm h1 h2 h3
      · by_cases h4 : (s.size : Int) < a
        · exact skips_over s r a w hm h1 h2 (by omega) h4
        · obtain ⟨n, rfl⟩ := Int.eq_ofNat_of_zero_le (by omega : 0 ≤ a)
          have hn : n ≤ s.size := by omega
          obtain ⟨K, k1, k2, k3, k4, k5⟩ := skip_facts s n hn
          obtain ⟨M, m1, m2, m3, m4⟩ := line_facts s n hn
          by_cases hk : K < s.size
          · by_cases hM : M < s.size
            · obtain ⟨m5, m6⟩ := m4 hM
              rcases m6 (by omega) with m7 | ⟨m7, m8⟩
              · exact skips_LR s r n K M w h1 h2 hn hm k1 k2 k3 hk (k5 hk).1 (k5 hk).2 m1 m2 hM m5 (by omega) m7
              · exact skips_LN s r n K M w h1 h2 hn hm k1 k2 k3 hk (k5 hk).1 (k5 hk).2 m1 m2 hM m5 (by omega) m7 m8
            · exact skips_LE s r n K M w h1 h2 hn hm k1 k2 k3 hk (k5 hk).1 (k5 hk).2 m1 m2 (by omega)
          · by_cases hM : M < s.size
            · obtain ⟨m5, m6⟩ := m4 hM
              rcases m6 (by omega) with m7 | ⟨m7, m8⟩
              · exact skips_ER s r n K M w h1 h2 hn hm k1 k2 k3 (by omega) m1 m2 hM m5 (by omega) m7
              · exact skips_EN s r n K M w h1 h2 hn hm k1 k2 k3 (by omega) m1 m2 hM m5 (by omega) m7 m8
            · exact skips_EE s r n K M w h1 h2 hn hm k1 k2 k3 (by omega) m1 m2 (by omega)
    · exact skips_wide s r a w hm h1 (by omega)
  · exact skips_long s r a w hm (by omega)

theorem own : ownKnob Try.prog.godebug = none := by kernel_rfl
theorem maxLen_of {W : World} (hsh : W.ShapedOpen Try.prog) : MaxLenAt W := Try.laysM143.s1_3 W hsh

set_option maxRecDepth 100000 in
theorem skips_lifted (os : Os) (started : os.Started) (H : Type) (enc : TypeId × Value → H) :
    ReturnsInHanded {} Try.checked os 5 .any (Rows.octetSkipsSpec.pre6 enc Try.prog Try.f5 Rows.octetSkipsRow.domain false) (Rows.octetSkipsSpec.post enc Try.prog Try.f5 false true false false) := by
  refine returnsInHanded_of_change_shaped (C := Try.checked) own started (by kernel_rfl) Try.func5
    (ChangeSpec.witness6 (enc := enc) (C := Try.checked) false ⟨#[], #[.string ⟨#[]⟩, .string ⟨#[]⟩, .int .i64 0], []⟩ 8 (by kernel_rfl) (by kernel_rfl) (by kernel_rfl) (by kernel_rfl)) ?_
  intro W base args ds gs before hval0 hW hcnd0 _ hsh _
  have hval : ∀ (j : Nat) t v, Try.f5.params[j]? = some t → args[j]? = some v → Value.okWide Try.prog W .any base t v := hval0
  have hW' := hW
  obtain ⟨p, q, hA0, hV, rfl, hfz, hnd⟩ := hW
  have hA : DataW.TrodAll enc Try.prog W 0 (fun _ => true) true Try.f5.params.toList args.toList ds p := hA0
  rw [Try.params5] at hA hval
  obtain ⟨v0, v1, v2, d0, d1, d2, p0, p1, p2, rfl, rfl, rfl, h0, h1, h2⟩ := trodAll_three hA
  obtain ⟨rfl, rfl⟩ := trodVars_none hV
  obtain ⟨s, rfl, rfl, rfl, ws⟩ := open_string Try.underlying9 (hval 0 9 v0 rfl rfl) h0
  obtain ⟨t, rfl, rfl, rfl, wt⟩ := open_string Try.underlying9 (hval 1 9 v1 rfl rfl) h1
  obtain ⟨a, rfl, rfl, rfl, wa⟩ := open_int Try.underlying3 (hval 2 3 v2 rfl rfl) h2
  clear hA0 hval0
  simp only [List.append_nil] at hW'
  refine (skips_any s t a W (maxLen_of hsh)).mono fun e W' ⟨he, hb⟩ => ?_
  subst he
  exact ⟨_, rfl, post_new hW' (fun _ _ _ => trodAll_mk1 (shut_bool Try.underlying4 _)) (fun _ => trodAll_mk3 (shut_string Try.underlying9 ws) (shut_string Try.underlying9 wt) (shut_int Try.underlying3 wa)) (fun _ => rfl) hb
    (ok_one (by kernel_rfl) rfl (okWide_bool_mk Try.underlying4 _))⟩

theorem octetSkips_holds : Rows.OctetSkipsSaid :=
  OpenClaim.holds_of_wide 5 Try.f5 rfl rfl rfl rfl rfl rfl rfl ⟨rfl, rfl, rfl, rfl, rfl⟩ rfl rfl rfl rfl rfl (by kernel_rfl) Try.func5 (by kernel_rfl)
    (of_decide_eq_true (by kernel_rfl)) (by unfold Func.isWrapper; first | (rw [if_pos (by decide +kernel)]; kernel_rfl) | (rw [if_neg (by decide +kernel)]; exact ⟨rfl, rfl⟩))
    (fun os started H enc _ => skips_lifted os started H enc)
end Go.Proofs.Ytbpmfkikkocbhab
