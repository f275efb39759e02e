/-
  The reference's form: its walks.
-/
import Derived.Test.YtmimeconkmfkfaaDoorFixRc
namespace Go.Proofs.YtmimeconkmfkfaaDoor
open Go.RowKit Fix

set_option maxHeartbeats 3200000 in
theorem form_minus (s X : ByteArray) (w : World) (hs40 : s.size ≤ 40) (h0 : 1 ≤ s.size) (hc : s[0] = 45) (hX0 : X = s.extract 1 s.size) (hX : X.data.toList = bodyL s.data.toList) (hm : minusL s.data.toList = true) :
    Calls Tryd.prog 35 #[.string s] w (FormEnd s.data.toList w) := by
  have hs40' : ¬ (40 : Int) < (s.size : Int) := by omega
  have HF := Lib.hid (And.intro hX (And.intro hs40 hm))
  have e1 : s.toList.isEmpty = false := by rw [Lib.toList_data, List.isEmpty_eq_false_iff]; intro e; have := congrArg List.length e; rw [size_list, List.length_nil] at this; omega
  have e2 : ((s[0].toNat : Int) == 43) = false := by rw [hc]; rfl
  have e3 : ((s[0].toNat : Int) == 45) = true := by rw [hc]; rfl
  have e4 : (1 : Int) ≤ (s.size : Int) := by omega
  clear hc
  have hX40 : X.size ≤ 40 := by rw [hX0]; simp; omega
  have HX0 := Lib.hid hX0
  clear hX hm hX0
  go_enter Tryd.func35, Tryd.ntmps35
  go_wp2
  try rw [← HX0.out]
  go_loop [7, 8, 9, 10] (fun a b p i => ∃ (k : Nat) (A B : ByteArray) (f : Bool), k ≤ X.size ∧ a = .string A ∧ b = .string B ∧ p = .bool f ∧ i = .int .i64 k ∧ A.size ≤ k ∧ B.size ≤ k ∧ Hid (FormAt X k A B f)) (fun _ _ _ i => X.size - (intOf i).toNat)
  case atStart => exact ⟨0, ⟨#[]⟩, ⟨#[]⟩, false, by omega, rfl, rfl, rfl, rfl, by decide, by decide, Lib.hid ⟨rfl, rfl, rfl⟩⟩
  case round =>
    obtain ⟨k, A, B, f, hk, rfl, rfl, rfl, rfl, hA, hB, hi⟩ := hrel
    by_cases hlt : k < X.size
    · by_cases hd : isDig X[k] = true
      · obtain ⟨d1, d2, d3⟩ := dig_facts hd
        cases f
        · have HN := Lib.hid (form_whole hlt hi.out hd)
          have hsz : (A ++ X.extract k (k + 1)).size ≤ k + 1 := by rw [ByteArray.size_append]; simp; omega
          have HSZ := Lib.hid hsz
          clear hd hsz
          go_wp2
          go_round
          case rel => exact ⟨k + 1, _, B, false, by omega, rfl, rfl, rfl, by go_num, HSZ.out, by omega, Lib.hid HN.out⟩
          case measure => simp [intOf]; omega
        · have HN := Lib.hid (form_part hlt hi.out hd)
          have hsz : (B ++ X.extract k (k + 1)).size ≤ k + 1 := by rw [ByteArray.size_append]; simp; omega
          have HSZ := Lib.hid hsz
          clear hd hsz
          go_wp2
          go_round
          case rel => exact ⟨k + 1, A, _, true, by omega, rfl, rfl, rfl, by go_num, by omega, HSZ.out, Lib.hid HN.out⟩
          case measure => simp [intOf]; omega
      · by_cases hp : f = false ∧ X[k] = 46
        · obtain ⟨rfl, hp⟩ := hp
          have HN := Lib.hid (form_point hlt hi.out hp)
          have hp' : ((X[k].toNat : Int) == 46) = true := by rw [hp]; rfl
          clear hd hp
          go_wp2
          go_round
          case rel => exact ⟨k + 1, A, B, true, by omega, rfl, rfl, rfl, by go_num, by omega, by omega, Lib.hid HN.out⟩
          case measure => simp [intOf]; omega
        · have HX := Lib.hid (form_bad HF.out.1 hlt hi.out hd (by
            by_cases hf : f = true
            · exact Or.inl hf
            · exact Or.inr fun e => hp ⟨Bool.eq_false_iff.2 hf, e⟩))
          have hp' : ((X[k].toNat : Int) == 46) = true ∧ f = true ∨ ((X[k].toNat : Int) == 46) = false := by
            by_cases he : X[k] = 46
            · exact Or.inl ⟨by rw [he]; rfl, by
                by_cases hf : f = true
                · exact hf
                · exact absurd ⟨Bool.eq_false_iff.2 hf, he⟩ hp⟩
            · refine Or.inr ?_
              simp only [beq_eq_false_iff_ne, ne_eq]
              intro e
              exact he (UInt8.toNat_inj.1 (show _ = 46 by omega))
          rcases hp' with ⟨q1, rfl⟩ | q1
          all_goals
            rcases isDig_no hd with d1 | d1
            all_goals
              first
                | have d2 : (X[k].toNat : Int) < 48 := by omega
                | (have d2 : (57 : Int) < (X[k].toNat : Int) := by omega
                   have d3 : ¬ (X[k].toNat : Int) < 48 := by omega)
              clear hd hp d1
              go_wp2
              refine ends_four rfl rfl ?_
              exact formEnd_no HX.out
    · obtain rfl : k = X.size := by omega
      have HX := Lib.hid hi
      clear hi
      go_wp2
      refine ends_four rfl rfl ?_
      exact form_done HF.out.1 HF.out.2.1 HX.out.out HF.out.2.2

set_option maxHeartbeats 3200000 in
theorem form_plus (s X : ByteArray) (w : World) (hs40 : s.size ≤ 40) (h0 : 1 ≤ s.size) (hc : s[0] = 43) (hX0 : X = s.extract 1 s.size) (hX : X.data.toList = bodyL s.data.toList) (hm : minusL s.data.toList = false) :
    Calls Tryd.prog 35 #[.string s] w (FormEnd s.data.toList w) := by
  have hs40' : ¬ (40 : Int) < (s.size : Int) := by omega
  have HF := Lib.hid (And.intro hX (And.intro hs40 hm))
  have e1 : s.toList.isEmpty = false := by rw [Lib.toList_data, List.isEmpty_eq_false_iff]; intro e; have := congrArg List.length e; rw [size_list, List.length_nil] at this; omega
  have e2 : ((s[0].toNat : Int) == 43) = true := by rw [hc]; rfl
  have e3 : ((s[0].toNat : Int) == 45) = false := by rw [hc]; rfl
  have e4 : (1 : Int) ≤ (s.size : Int) := by omega
  clear hc
  have hX40 : X.size ≤ 40 := by rw [hX0]; simp; omega
  have HX0 := Lib.hid hX0
  clear hX hm hX0
  go_enter Tryd.func35, Tryd.ntmps35
  go_wp2
  try rw [← HX0.out]
  go_loop [7, 8, 9, 10] (fun a b p i => ∃ (k : Nat) (A B : ByteArray) (f : Bool), k ≤ X.size ∧ a = .string A ∧ b = .string B ∧ p = .bool f ∧ i = .int .i64 k ∧ A.size ≤ k ∧ B.size ≤ k ∧ Hid (FormAt X k A B f)) (fun _ _ _ i => X.size - (intOf i).toNat)
  case atStart => exact ⟨0, ⟨#[]⟩, ⟨#[]⟩, false, by omega, rfl, rfl, rfl, rfl, by decide, by decide, Lib.hid ⟨rfl, rfl, rfl⟩⟩
  case round =>
    obtain ⟨k, A, B, f, hk, rfl, rfl, rfl, rfl, hA, hB, hi⟩ := hrel
    by_cases hlt : k < X.size
    · by_cases hd : isDig X[k] = true
      · obtain ⟨d1, d2, d3⟩ := dig_facts hd
        cases f
        · have HN := Lib.hid (form_whole hlt hi.out hd)
          have hsz : (A ++ X.extract k (k + 1)).size ≤ k + 1 := by rw [ByteArray.size_append]; simp; omega
          have HSZ := Lib.hid hsz
          clear hd hsz
          go_wp2
          go_round
          case rel => exact ⟨k + 1, _, B, false, by omega, rfl, rfl, rfl, by go_num, HSZ.out, by omega, Lib.hid HN.out⟩
          case measure => simp [intOf]; omega
        · have HN := Lib.hid (form_part hlt hi.out hd)
          have hsz : (B ++ X.extract k (k + 1)).size ≤ k + 1 := by rw [ByteArray.size_append]; simp; omega
          have HSZ := Lib.hid hsz
          clear hd hsz
          go_wp2
          go_round
          case rel => exact ⟨k + 1, A, _, true, by omega, rfl, rfl, rfl, by go_num, by omega, HSZ.out, Lib.hid HN.out⟩
          case measure => simp [intOf]; omega
      · by_cases hp : f = false ∧ X[k] = 46
        · obtain ⟨rfl, hp⟩ := hp
          have HN := Lib.hid (form_point hlt hi.out hp)
          have hp' : ((X[k].toNat : Int) == 46) = true := by rw [hp]; rfl
          clear hd hp
          go_wp2
          go_round
          case rel => exact ⟨k + 1, A, B, true, by omega, rfl, rfl, rfl, by go_num, by omega, by omega, Lib.hid HN.out⟩
          case measure => simp [intOf]; omega
        · have HX := Lib.hid (form_bad HF.out.1 hlt hi.out hd (by
            by_cases hf : f = true
            · exact Or.inl hf
            · exact Or.inr fun e => hp ⟨Bool.eq_false_iff.2 hf, e⟩))
          have hp' : ((X[k].toNat : Int) == 46) = true ∧ f = true ∨ ((X[k].toNat : Int) == 46) = false := by
            by_cases he : X[k] = 46
            · exact Or.inl ⟨by rw [he]; rfl, by
                by_cases hf : f = true
                · exact hf
                · exact absurd ⟨Bool.eq_false_iff.2 hf, he⟩ hp⟩
            · refine Or.inr ?_
              simp only [beq_eq_false_iff_ne, ne_eq]
              intro e
              exact he (UInt8.toNat_inj.1 (show _ = 46 by omega))
          rcases hp' with ⟨q1, rfl⟩ | q1
          all_goals
            rcases isDig_no hd with d1 | d1
            all_goals
              first
                | have d2 : (X[k].toNat : Int) < 48 := by omega
                | (have d2 : (57 : Int) < (X[k].toNat : Int) := by omega
                   have d3 : ¬ (X[k].toNat : Int) < 48 := by omega)
              clear hd hp d1
              go_wp2
              refine ends_four rfl rfl ?_
              exact formEnd_no HX.out
    · obtain rfl : k = X.size := by omega
      have HX := Lib.hid hi
      clear hi
      go_wp2
      refine ends_four rfl rfl ?_
      exact form_done HF.out.1 HF.out.2.1 HX.out.out HF.out.2.2

set_option maxHeartbeats 3200000 in
theorem form_none (s : ByteArray) (w : World) (hs40 : s.size ≤ 40) (h0 : 1 ≤ s.size) (hc : ¬ s[0] = 45) (hc2 : ¬ s[0] = 43) (hX : s.data.toList = bodyL s.data.toList) (hm : minusL s.data.toList = false) :
    Calls Tryd.prog 35 #[.string s] w (FormEnd s.data.toList w) := by
  have hs40' : ¬ (40 : Int) < (s.size : Int) := by omega
  have HF := Lib.hid (And.intro hX (And.intro hs40 hm))
  have e1 : s.toList.isEmpty = false := by rw [Lib.toList_data, List.isEmpty_eq_false_iff]; intro e; have := congrArg List.length e; rw [size_list, List.length_nil] at this; omega
  have e2 : ((s[0].toNat : Int) == 43) = false := by simp only [beq_eq_false_iff_ne, ne_eq]; intro e; exact hc2 (UInt8.toNat_inj.1 (show _ = 43 by omega))
  have e3 : ((s[0].toNat : Int) == 45) = false := by simp only [beq_eq_false_iff_ne, ne_eq]; intro e; exact hc (UInt8.toNat_inj.1 (show _ = 45 by omega))
  have e4 : (1 : Int) ≤ (s.size : Int) := by omega
  clear hc hc2
  clear hX hm
  go_enter Tryd.func35, Tryd.ntmps35
  go_wp2
  go_loop [7, 8, 9, 10] (fun a b p i => ∃ (k : Nat) (A B : ByteArray) (f : Bool), k ≤ s.size ∧ a = .string A ∧ b = .string B ∧ p = .bool f ∧ i = .int .i64 k ∧ A.size ≤ k ∧ B.size ≤ k ∧ Hid (FormAt s k A B f)) (fun _ _ _ i => s.size - (intOf i).toNat)
  case atStart => exact ⟨0, ⟨#[]⟩, ⟨#[]⟩, false, by omega, rfl, rfl, rfl, rfl, by decide, by decide, Lib.hid ⟨rfl, rfl, rfl⟩⟩
  case round =>
    obtain ⟨k, A, B, f, hk, rfl, rfl, rfl, rfl, hA, hB, hi⟩ := hrel
    by_cases hlt : k < s.size
    · by_cases hd : isDig s[k] = true
      · obtain ⟨d1, d2, d3⟩ := dig_facts hd
        cases f
        · have HN := Lib.hid (form_whole hlt hi.out hd)
          have hsz : (A ++ s.extract k (k + 1)).size ≤ k + 1 := by rw [ByteArray.size_append]; simp; omega
          have HSZ := Lib.hid hsz
          clear hd hsz
          go_wp2
          go_round
          case rel => exact ⟨k + 1, _, B, false, by omega, rfl, rfl, rfl, by go_num, HSZ.out, by omega, Lib.hid HN.out⟩
          case measure => simp [intOf]; omega
        · have HN := Lib.hid (form_part hlt hi.out hd)
          have hsz : (B ++ s.extract k (k + 1)).size ≤ k + 1 := by rw [ByteArray.size_append]; simp; omega
          have HSZ := Lib.hid hsz
          clear hd hsz
          go_wp2
          go_round
          case rel => exact ⟨k + 1, A, _, true, by omega, rfl, rfl, rfl, by go_num, by omega, HSZ.out, Lib.hid HN.out⟩
          case measure => simp [intOf]; omega
      · by_cases hp : f = false ∧ s[k] = 46
        · obtain ⟨rfl, hp⟩ := hp
          have HN := Lib.hid (form_point hlt hi.out hp)
          have hp' : ((s[k].toNat : Int) == 46) = true := by rw [hp]; rfl
          clear hd hp
          go_wp2
          go_round
          case rel => exact ⟨k + 1, A, B, true, by omega, rfl, rfl, rfl, by go_num, by omega, by omega, Lib.hid HN.out⟩
          case measure => simp [intOf]; omega
        · have HX := Lib.hid (form_bad HF.out.1 hlt hi.out hd (by
            by_cases hf : f = true
            · exact Or.inl hf
            · exact Or.inr fun e => hp ⟨Bool.eq_false_iff.2 hf, e⟩))
          have hp' : ((s[k].toNat : Int) == 46) = true ∧ f = true ∨ ((s[k].toNat : Int) == 46) = false := by
            by_cases he : s[k] = 46
            · exact Or.inl ⟨by rw [he]; rfl, by
                by_cases hf : f = true
                · exact hf
                · exact absurd ⟨Bool.eq_false_iff.2 hf, he⟩ hp⟩
            · refine Or.inr ?_
              simp only [beq_eq_false_iff_ne, ne_eq]
              intro e
              exact he (UInt8.toNat_inj.1 (show _ = 46 by omega))
          rcases hp' with ⟨q1, rfl⟩ | q1
          all_goals
            rcases isDig_no hd with d1 | d1
            all_goals
              first
                | have d2 : (s[k].toNat : Int) < 48 := by omega
                | (have d2 : (57 : Int) < (s[k].toNat : Int) := by omega
                   have d3 : ¬ (s[k].toNat : Int) < 48 := by omega)
              clear hd hp d1
              go_wp2
              refine ends_four rfl rfl ?_
              exact formEnd_no HX.out
    · obtain rfl : k = s.size := by omega
      have HX := Lib.hid hi
      clear hi
      go_wp2
      refine ends_four rfl rfl ?_
      exact form_done HF.out.1 HF.out.2.1 HX.out.out HF.out.2.2

set_option maxHeartbeats 3200000 in
theorem form_empty (s : ByteArray) (w : World) (hs40 : s.size ≤ 40) (h0 : s.size = 0) (hX : s.data.toList = bodyL s.data.toList) (hm : minusL s.data.toList = false) :
    Calls Tryd.prog 35 #[.string s] w (FormEnd s.data.toList w) := by
  have hs40' : ¬ (40 : Int) < (s.size : Int) := by omega
  have HF := Lib.hid (And.intro hX (And.intro hs40 hm))
  have e1 : s.toList.isEmpty = true := by rw [Lib.toList_data, List.isEmpty_iff]; exact List.eq_nil_of_length_eq_zero (by rw [size_list]; exact h0)
  have h0' : s.size ≤ 0 := by omega
  clear hX hm h0
  go_enter Tryd.func35, Tryd.ntmps35
  go_wp2
  go_loop [7, 8, 9, 10] (fun a b p i => ∃ (k : Nat) (A B : ByteArray) (f : Bool), k ≤ s.size ∧ a = .string A ∧ b = .string B ∧ p = .bool f ∧ i = .int .i64 k ∧ A.size ≤ k ∧ B.size ≤ k ∧ Hid (FormAt s k A B f)) (fun _ _ _ i => s.size - (intOf i).toNat)
  case atStart => exact ⟨0, ⟨#[]⟩, ⟨#[]⟩, false, by omega, rfl, rfl, rfl, rfl, by decide, by decide, Lib.hid ⟨rfl, rfl, rfl⟩⟩
  case round =>
    obtain ⟨k, A, B, f, hk, rfl, rfl, rfl, rfl, hA, hB, hi⟩ := hrel
    by_cases hlt : k < s.size
    · exact absurd hlt (by omega)
    · obtain rfl : k = s.size := by omega
      have HX := Lib.hid hi
      clear hi
      go_wp2
      refine ends_four rfl rfl ?_
      exact form_done HF.out.1 HF.out.2.1 HX.out.out HF.out.2.2

theorem form_long (s : ByteArray) (w : World) (h : 40 < s.size) :
    Calls Tryd.prog 35 #[.string s] w (FormEnd s.data.toList w) := by
  have h' : (40 : Int) < (s.size : Int) := by omega
  have HG := Lib.hid (show goodR s.data.toList = false by unfold goodR; rw [decide_eq_false (by rw [size_list]; omega)]; rfl)
  go_enter Tryd.func35, Tryd.ntmps35
  go_wp2
  refine ends_four rfl rfl ?_
  exact formEnd_no HG.out

theorem form_any (s : ByteArray) (w : World) :
    Calls Tryd.prog 35 #[.string s] w (FormEnd s.data.toList w) := by
  by_cases h40 : 40 < s.size
  · exact form_long s w h40
  · have hlen := size_list s
    cases hl : s.data.toList with
    | nil =>
      rw [← hl]
      rw [hl, List.length_nil] at hlen
      exact form_empty s w (by omega) hlen.symm (by rw [hl]; rfl) (by rw [hl]; rfl)
    | cons c t =>
      rw [← hl]
      have hlen2 : 1 ≤ s.size := by rw [hl, List.length_cons] at hlen; omega
      have h0 : s[0] = c := by
        have e : s.data.toList[0]? = some c := by rw [hl]; rfl
        rw [List.getElem?_eq_getElem (by rw [size_list]; omega)] at e
        exact Option.some.inj e
      have hd : (s.extract 1 s.size).data.toList = t := by rw [drop1, hl]; rfl
      by_cases h1 : c = 45
      · subst h1
        exact form_minus s _ w (by omega) hlen2 h0 rfl (by rw [hd, hl]; rfl) (by rw [hl]; rfl)
      · by_cases h2 : c = 43
        · subst h2
          exact form_plus s _ w (by omega) hlen2 h0 rfl (by rw [hd, hl]; rfl) (by rw [hl]; rfl)
        · exact form_none s w (by omega) hlen2 (by rw [h0]; exact h1) (by rw [h0]; exact h2) (by rw [hl]; unfold bodyL; simp [h1, h2]) (by rw [hl]; unfold minusL; simpa using h1)
end Go.Proofs.YtmimeconkmfkfaaDoor
