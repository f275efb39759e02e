/-
  For every string, every part and every offset OctetFinds returns true and leaves its arguments as they were (no condition).
-/
import Derived.Test.YtbpmfkikkocbhabOctE
import Derived.Test.YtbpmfkikkocbhabRowEnd
import Derived.HandedShaped
namespace Go.Proofs.Ytbpmfkikkocbhab
open Go.ChangeShapes Go.WideShapes Go.ChangeAt Go.RowKit Oct
open Go.ChangeMaps (open_string shut_string)

theorem from_int (a : Int) : max a 0 = (fromN a : Int) := by unfold fromN; omega
theorem isEmpty_no {p : ByteArray} (h : p.data.toList ≠ []) : p.toList.isEmpty = false := by
  rw [Lib.toList_data]; cases hp : p.data.toList with
  | nil => exact absurd hp h
  | cons => rfl
theorem toList_no {p : ByteArray} (h : p.data.toList ≠ []) : ¬ p.toList = [] := by rw [Lib.toList_data]; exact h
theorem isEmpty_yes {p : ByteArray} (h : p.data.toList = []) : p.toList.isEmpty = true := by rw [Lib.toList_data, h]; rfl
theorem toList_yes {p : ByteArray} (h : p.data.toList = []) : p.toList = [] := by rw [Lib.toList_data]; exact h

set_option maxRecDepth 100000 in
set_option maxHeartbeats 2000000 in
theorem finds_Ae (s part : ByteArray) (a f l : Int) (w : World) (hs : s.size ≤ 1000) (hp : part.size ≤ 300) (hm : MaxLenAt w) (hf : findS s.data.toList part.data.toList a = f) (hl : lastS s.data.toList part.data.toList = l)
    (hf0 : f < 0) (hl0 : l < 0) (r0 : Int) (hr : findS s.data.toList part.data.toList 0 = r0) (hr0 : r0 < 0) (_he1 : part.toList.isEmpty = true) (he2 : part.toList = []) :
    Calls Try.prog 6 #[.string s, .string part, .int .i64 a] w fun e w' => e = .returned (.bool true) ∧ Below w.heap.size w w' := by
  have HF := Lib.hid hf
  have HL := Lib.hid hl
  have HR := Lib.hid hr
  clear hf hl hr
  go_enter Try.func6, Try.ntmps6
  go_wp2_with fail
  refine (lives_any _ hm).mono ?_
  rintro e w1 ⟨rfl, hb1⟩
  have HM := Lib.hid (hm.below hb1)
  clear hm
  go_wp2_with fail
  refine (find_c s part a f _ (by omega) HM.out HF.out).mono ?_
  rintro e w' ⟨rfl, rfl⟩
  go_wp2_with fail
  refine (last_c s part l _ (by omega) HL.out).mono ?_
  rintro e w' ⟨rfl, rfl⟩
  go_wp2_with fail
  go_loop [9] (fun v => ∃ i : Nat, fromN a ≤ i ∧ v = .int .i64 i) (fun v => s.size - (intOf v).toNat)
  case atStart => exact ⟨fromN a, Nat.le_refl _, by rw [from_int]⟩
  case round =>
    obtain ⟨i, hi, rfl⟩ := hrel
    by_cases hlt : i < s.size
    · go_wp2_with fail
      go_round
      case rel => exact ⟨i + 1, by omega, by go_num⟩
      case measure => simp [intOf]; omega
    · go_wp2_with fail
      refine (find_c s part 0 r0 _ (by omega) HM.out HR.out).mono ?_
      rintro e w' ⟨rfl, rfl⟩
      go_wp2_with fail
      go_ret
      exact ⟨rfl, hb1⟩

set_option maxRecDepth 100000 in
set_option maxHeartbeats 2000000 in
theorem finds_A (s part : ByteArray) (a f l : Int) (w : World) (hs : s.size ≤ 1000) (hp : part.size ≤ 300) (hm : MaxLenAt w) (hf : findS s.data.toList part.data.toList a = f) (hl : lastS s.data.toList part.data.toList = l)
    (hf0 : f < 0) (hl0 : l < 0) (r0 : Int) (hr : findS s.data.toList part.data.toList 0 = r0) (hr0 : r0 < 0) (he1 : part.toList.isEmpty = false) (_he2 : ¬ part.toList = []) (hno : ∀ i : Nat, fromN a ≤ i → (f < 0 ∨ (i : Int) < f) → beginsS s.data.toList part.data.toList i = false) :
    Calls Try.prog 6 #[.string s, .string part, .int .i64 a] w fun e w' => e = .returned (.bool true) ∧ Below w.heap.size w w' := by
  have HF := Lib.hid hf
  have HL := Lib.hid hl
  have HR := Lib.hid hr
  have HNO := Lib.hid hno
  clear hf hl hr hno
  go_enter Try.func6, Try.ntmps6
  go_wp2_with fail
  refine (lives_any _ hm).mono ?_
  rintro e w1 ⟨rfl, hb1⟩
  have HM := Lib.hid (hm.below hb1)
  clear hm
  go_wp2_with fail
  refine (find_c s part a f _ (by omega) HM.out HF.out).mono ?_
  rintro e w' ⟨rfl, rfl⟩
  go_wp2_with fail
  refine (last_c s part l _ (by omega) HL.out).mono ?_
  rintro e w' ⟨rfl, rfl⟩
  go_wp2_with fail
  go_loop [9] (fun v => ∃ i : Nat, fromN a ≤ i ∧ v = .int .i64 i) (fun v => s.size - (intOf v).toNat)
  case atStart => exact ⟨fromN a, Nat.le_refl _, by rw [from_int]⟩
  case round =>
    obtain ⟨i, hi, rfl⟩ := hrel
    by_cases hlt : i < s.size
    · go_wp2_with fail
      refine (begins_c s part i false _ (by omega) (HNO.out i hi (.inl hf0))).mono ?_
      rintro e w' ⟨rfl, rfl⟩
      go_wp2_with fail
      go_round
      case rel => exact ⟨i + 1, by omega, by go_num⟩
      case measure => simp [intOf]; omega
    · go_wp2_with fail
      refine (find_c s part 0 r0 _ (by omega) HM.out HR.out).mono ?_
      rintro e w' ⟨rfl, rfl⟩
      go_wp2_with fail
      go_ret
      exact ⟨rfl, hb1⟩

set_option maxRecDepth 100000 in
set_option maxHeartbeats 2000000 in
theorem finds_B (s part : ByteArray) (a f l : Int) (w : World) (hs : s.size ≤ 1000) (hp : part.size ≤ 300) (hm : MaxLenAt w) (hf : findS s.data.toList part.data.toList a = f) (hl : lastS s.data.toList part.data.toList = l)
    (hf0 : f < 0) (hl0 : 0 ≤ l) (hb : beginsS s.data.toList part.data.toList l = true) (hll : findS s.data.toList part.data.toList l = l) (r0 : Int) (hr : findS s.data.toList part.data.toList (l + 1) = r0) (hr0 : r0 < 0) (hle : l ≤ s.size) (he1 : part.toList.isEmpty = false) (_he2 : ¬ part.toList = []) (hno : ∀ i : Nat, fromN a ≤ i → (f < 0 ∨ (i : Int) < f) → beginsS s.data.toList part.data.toList i = false) :
    Calls Try.prog 6 #[.string s, .string part, .int .i64 a] w fun e w' => e = .returned (.bool true) ∧ Below w.heap.size w w' := by
  have HF := Lib.hid hf
  have HL := Lib.hid hl
  have HR := Lib.hid hr
  have HB := Lib.hid hb
  have HLL := Lib.hid hll
  have HNO := Lib.hid hno
  clear hf hl hr hb hll hno
  go_enter Try.func6, Try.ntmps6
  go_wp2_with fail
  refine (lives_any _ hm).mono ?_
  rintro e w1 ⟨rfl, hb1⟩
  have HM := Lib.hid (hm.below hb1)
  clear hm
  go_wp2_with fail
  refine (find_c s part a f _ (by omega) HM.out HF.out).mono ?_
  rintro e w' ⟨rfl, rfl⟩
  go_wp2_with fail
  refine (last_c s part l _ (by omega) HL.out).mono ?_
  rintro e w' ⟨rfl, rfl⟩
  go_wp2_with fail
  go_loop [9] (fun v => ∃ i : Nat, fromN a ≤ i ∧ v = .int .i64 i) (fun v => s.size - (intOf v).toNat)
  case atStart => exact ⟨fromN a, Nat.le_refl _, by rw [from_int]⟩
  case round =>
    obtain ⟨i, hi, rfl⟩ := hrel
    by_cases hlt : i < s.size
    · go_wp2_with fail
      refine (begins_c s part i false _ (by omega) (HNO.out i hi (.inl hf0))).mono ?_
      rintro e w' ⟨rfl, rfl⟩
      go_wp2_with fail
      go_round
      case rel => exact ⟨i + 1, by omega, by go_num⟩
      case measure => simp [intOf]; omega
    · go_wp2_with fail
      refine (begins_c s part l true _ (by omega) HB.out).mono ?_
      rintro e w' ⟨rfl, rfl⟩
      go_wp2_with fail
      refine (find_c s part l l _ (by omega) HM.out HLL.out).mono ?_
      rintro e w' ⟨rfl, rfl⟩
      go_wp2_with fail
      refine (find_c s part (l + 1) r0 _ (by omega) HM.out HR.out).mono ?_
      rintro e w' ⟨rfl, rfl⟩
      go_wp2_with fail
      go_ret
      exact ⟨rfl, hb1⟩

set_option maxRecDepth 100000 in
set_option maxHeartbeats 2000000 in
theorem finds_C (s part : ByteArray) (a f l : Int) (w : World) (hs : s.size ≤ 1000) (hp : part.size ≤ 300) (hm : MaxLenAt w) (hf : findS s.data.toList part.data.toList a = f) (hl : lastS s.data.toList part.data.toList = l)
    (hf0 : 0 ≤ f) (hfa : a ≤ f) (hbf : beginsS s.data.toList part.data.toList f = true) (hfl : f ≤ l) (hb : beginsS s.data.toList part.data.toList l = true) (hll : findS s.data.toList part.data.toList l = l) (r0 : Int) (hr : findS s.data.toList part.data.toList (l + 1) = r0) (hr0 : r0 < 0) (hle : l ≤ s.size) (he1 : part.toList.isEmpty = false) (_he2 : ¬ part.toList = []) (hno : ∀ i : Nat, fromN a ≤ i → (f < 0 ∨ (i : Int) < f) → beginsS s.data.toList part.data.toList i = false) :
    Calls Try.prog 6 #[.string s, .string part, .int .i64 a] w fun e w' => e = .returned (.bool true) ∧ Below w.heap.size w w' := by
  have HF := Lib.hid hf
  have HL := Lib.hid hl
  have HR := Lib.hid hr
  have HB := Lib.hid hb
  have HLL := Lib.hid hll
  have HBF := Lib.hid hbf
  have HNO := Lib.hid hno
  clear hf hl hr hb hll hbf hno
  go_enter Try.func6, Try.ntmps6
  go_wp2_with fail
  refine (lives_any _ hm).mono ?_
  rintro e w1 ⟨rfl, hb1⟩
  have HM := Lib.hid (hm.below hb1)
  clear hm
  go_wp2_with fail
  refine (find_c s part a f _ (by omega) HM.out HF.out).mono ?_
  rintro e w' ⟨rfl, rfl⟩
  go_wp2_with fail
  refine (last_c s part l _ (by omega) HL.out).mono ?_
  rintro e w' ⟨rfl, rfl⟩
  go_wp2_with fail
  refine (begins_c s part f true _ (by omega) HBF.out).mono ?_
  rintro e w' ⟨rfl, rfl⟩
  go_wp2_with fail
  go_loop [9] (fun v => ∃ i : Nat, fromN a ≤ i ∧ v = .int .i64 i) (fun v => s.size - (intOf v).toNat)
  case atStart => exact ⟨fromN a, Nat.le_refl _, by rw [from_int]⟩
  case round =>
    obtain ⟨i, hi, rfl⟩ := hrel
    by_cases hlt : i < s.size ∧ (i : Int) < f
    · obtain ⟨hlt, hlf⟩ := hlt
      go_wp2_with fail
      refine (begins_c s part i false _ (by omega) (HNO.out i hi (.inr hlf))).mono ?_
      rintro e w' ⟨rfl, rfl⟩
      go_wp2_with fail
      go_round
      case rel => exact ⟨i + 1, by omega, by go_num⟩
      case measure => simp [intOf]; omega
    · by_cases hlt2 : i < s.size
      · have hlf : f ≤ (i : Int) := by omega
        clear hlt
        go_wp2_with fail
        refine (begins_c s part l true _ (by omega) HB.out).mono ?_
        rintro e w' ⟨rfl, rfl⟩
        go_wp2_with fail
        refine (find_c s part l l _ (by omega) HM.out HLL.out).mono ?_
        rintro e w' ⟨rfl, rfl⟩
        go_wp2_with fail
        refine (find_c s part (l + 1) r0 _ (by omega) HM.out HR.out).mono ?_
        rintro e w' ⟨rfl, rfl⟩
        go_wp2_with fail
        go_ret
        exact ⟨rfl, hb1⟩
      · clear hlt
        go_wp2_with fail
        refine (begins_c s part l true _ (by omega) HB.out).mono ?_
        rintro e w' ⟨rfl, rfl⟩
        go_wp2_with fail
        refine (find_c s part l l _ (by omega) HM.out HLL.out).mono ?_
        rintro e w' ⟨rfl, rfl⟩
        go_wp2_with fail
        refine (find_c s part (l + 1) r0 _ (by omega) HM.out HR.out).mono ?_
        rintro e w' ⟨rfl, rfl⟩
        go_wp2_with fail
        go_ret
        exact ⟨rfl, hb1⟩

theorem finds_long (s part : ByteArray) (a : Int) (w : World) (hm : MaxLenAt w) (h1 : 1000 < s.size) :
    Calls Try.prog 6 #[.string s, .string part, .int .i64 a] w fun e w' => e = .returned (.bool true) ∧ Below w.heap.size w w' := by
  go_enter Try.func6, Try.ntmps6
  go_wp2_with fail
  refine (lives_any _ hm).mono ?_
  rintro e w1 ⟨rfl, hb1⟩
  clear hm
  go_wp2_with fail
  go_ret
  exact ⟨rfl, hb1⟩

theorem finds_wide (s part : ByteArray) (a : Int) (w : World) (hm : MaxLenAt w) (h1 : s.size ≤ 1000) (h2 : 300 < part.size) :
    Calls Try.prog 6 #[.string s, .string part, .int .i64 a] w fun e w' => e = .returned (.bool true) ∧ Below w.heap.size w w' := by
  go_enter Try.func6, Try.ntmps6
  go_wp2_with fail
  refine (lives_any _ hm).mono ?_
  rintro e w1 ⟨rfl, hb1⟩
  clear hm
  go_wp2_with fail
  go_ret
  exact ⟨rfl, hb1⟩

theorem finds_any (s part : ByteArray) (a : Int) (w : World) (hm : MaxLenAt w) :
    Calls Try.prog 6 #[.string s, .string part, .int .i64 a] w fun e w' => e = .returned (.bool true) ∧ Below w.heap.size w w' := by
  by_cases h1 : s.size ≤ 1000
  · by_cases h2 : part.size ≤ 300
    · obtain ⟨f, l, hf, hl, P1, P2, P3, P4⟩ := finds s.data.toList part.data.toList a
      by_cases hl0 : l < 0
      · have hf0 : f < 0 := by
          by_cases h : f < 0
          · exact h
          · have := (P1 (by omega)).2.2.2; omega
        by_cases hp : part.data.toList = []
        · exact finds_Ae s part a f l w h1 h2 hm hf hl hf0 hl0 _ rfl (P3 hl0) (isEmpty_yes hp) (toList_yes hp)
        · exact finds_A s part a f l w h1 h2 hm hf hl hf0 hl0 _ rfl (P3 hl0) (isEmpty_no hp) (toList_no hp) (P2 hp)
      · obtain ⟨q1, q2, q3⟩ := P4 (by omega)
        have hp : part.data.toList ≠ [] := by
          intro e
          rw [e, lastS_empty] at hl
          omega
        have hle : l ≤ s.size := by
          rcases lastS_spec (s := s.data.toList) hp with ⟨e, _⟩ | ⟨k, hk, e, _⟩
          · omega
          · rw [size_len] at hk; omega
        by_cases hf0 : f < 0
        · exact finds_B s part a f l w h1 h2 hm hf hl hf0 (by omega) q1 q2 _ rfl q3 hle (isEmpty_no hp) (toList_no hp) (P2 hp)
        · obtain ⟨p1, p2, _, p4⟩ := P1 (by omega)
          exact finds_C s part a f l w h1 h2 hm hf hl (by omega) p1 p2 p4 q1 q2 _ rfl q3 hle (isEmpty_no hp) (toList_no hp) (P2 hp)
    · exact finds_wide s part a w hm h1 (by omega)
  · exact finds_long s part a w hm (by omega)

theorem own : ownKnob Try.prog.godebug = none := by kernel_rfl
theorem maxLen_of {W : World} (hsh : W.ShapedOpen Try.prog) : MaxLenAt W := Try.laysM143.s1_3 W hsh

set_option maxRecDepth 100000 in
theorem finds_lifted (os : Os) (started : os.Started) (H : Type) (enc : TypeId × Value → H) :
    ReturnsInHanded {} Try.checked os 6 .any (Rows.octetFindsSpec.pre6 enc Try.prog Try.f6 Rows.octetFindsRow.domain false) (Rows.octetFindsSpec.post enc Try.prog Try.f6 false true false false) := by
  refine returnsInHanded_of_change_shaped (C := Try.checked) own started (by kernel_rfl) Try.func6
    (ChangeSpec.witness6 (enc := enc) (C := Try.checked) false ⟨#[], #[.string ⟨#[]⟩, .string ⟨#[]⟩, .int .i64 0], []⟩ 8 (by kernel_rfl) (by kernel_rfl) (by kernel_rfl) (by kernel_rfl)) ?_
  intro W base args ds gs before hval0 hW hcnd0 _ hsh _
  have hval : ∀ (j : Nat) t v, Try.f6.params[j]? = some t → args[j]? = some v → Value.okWide Try.prog W .any base t v := hval0
  have hW' := hW
  obtain ⟨p, q, hA0, hV, rfl, hfz, hnd⟩ := hW
  have hA : DataW.TrodAll enc Try.prog W 0 (fun _ => true) true Try.f6.params.toList args.toList ds p := hA0
  rw [Try.params6] at hA hval
  obtain ⟨v0, v1, v2, d0, d1, d2, p0, p1, p2, rfl, rfl, rfl, h0, h1, h2⟩ := trodAll_three hA
  obtain ⟨rfl, rfl⟩ := trodVars_none hV
  obtain ⟨s, rfl, rfl, rfl, ws⟩ := open_string Try.underlying9 (hval 0 9 v0 rfl rfl) h0
  obtain ⟨t, rfl, rfl, rfl, wt⟩ := open_string Try.underlying9 (hval 1 9 v1 rfl rfl) h1
  obtain ⟨a, rfl, rfl, rfl, wa⟩ := open_int Try.underlying3 (hval 2 3 v2 rfl rfl) h2
  clear hA0 hval0
  simp only [List.append_nil] at hW'
  refine (finds_any s t a W (maxLen_of hsh)).mono fun e W' ⟨he, hb⟩ => ?_
  subst he
  exact ⟨_, rfl, post_new hW' (fun _ _ _ => trodAll_mk1 (shut_bool Try.underlying4 _)) (fun _ => trodAll_mk3 (shut_string Try.underlying9 ws) (shut_string Try.underlying9 wt) (shut_int Try.underlying3 wa)) (fun _ => rfl) hb
    (ok_one (by kernel_rfl) rfl (okWide_bool_mk Try.underlying4 _))⟩

theorem octetFinds_holds : Rows.OctetFindsSaid :=
  OpenClaim.holds_of_wide 6 Try.f6 rfl rfl rfl rfl rfl rfl rfl ⟨rfl, rfl, rfl, rfl, rfl⟩ rfl rfl rfl rfl rfl (by kernel_rfl) Try.func6 (by kernel_rfl)
    (of_decide_eq_true (by kernel_rfl)) (by unfold Func.isWrapper; first | (rw [if_pos (by decide +kernel)]; kernel_rfl) | (rw [if_neg (by decide +kernel)]; exact ⟨rfl, rfl⟩))
    (fun os started H enc _ => finds_lifted os started H enc)
end Go.Proofs.Ytbpmfkikkocbhab
