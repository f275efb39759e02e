/-
  Lemmas and walks, joined: FixRc, FixRd, FixWi, FixRe, FixRf, FixRg, FixRh.
-/
import Derived.Test.YtdpbpdikgcepbaaGreatDoorHz15
import Derived.Test.YtdpbpdikgcepbaaGreatDoorHz05
import Derived.Deep.DeepCutAuto
namespace Go.Proofs.YtdpbpdikgcepbaaGreatDoor
open Go.RowKit Fix

theorem ends_four {fn : Func} {t u v x : Tmp} {R : Ending → World → Prop} {a : Act} {P : Program} {w : World} (h : fn.results = #[.tmp t, .tmp u, .tmp v, .tmp x]) (hd : a.defers = [])
    (hR : R (.returned (.tuple #[a.tmps.getD t undef, a.tmps.getD u undef, a.tmps.getD v undef, a.tmps.getD x undef])) w) : bodyPost P fn R .ret a w :=
  bodyPost_ret (v := .tuple #[a.tmps.getD t undef, a.tmps.getD u undef, a.tmps.getD v undef, a.tmps.getD x undef]) (by simp [results, h]) hd hR

/-- What form answers. -/
def FormEnd (l : List UInt8) (w : World) (e : Ending) (w' : World) : Prop :=
  (∃ (A B : ByteArray) (m ok : Bool), e = .returned (.tuple #[.string A, .string B, .bool m, .bool ok]) ∧ goodR l = ok ∧ (ok = true → A.data.toList = befL l ∧ B.data.toList = aftL l ∧ m = minusL l)) ∧ w = w'
theorem formEnd_no {l : List UInt8} {w : World} {A B : ByteArray} {m : Bool} (h : goodR l = false) : FormEnd l w (.returned (.tuple #[.string A, .string B, .bool m, .bool false])) w :=
  ⟨⟨A, B, m, false, rfl, h, fun h => by cases h⟩, rfl⟩

/-- What has been read behind k bytes of X. -/
def FormAt (X : ByteArray) (k : Nat) (A B : ByteArray) (f : Bool) : Prop :=
  splitP (X.data.toList.take k) = (A.data.toList, B.data.toList, f) ∧ A.data.toList.all isDig = true ∧ B.data.toList.all isDig = true
theorem bytes_succ (X : ByteArray) (k : Nat) (h : k < X.size) : X.data.toList.take (k + 1) = X.data.toList.take k ++ [X[k]] := by
  rw [List.take_succ_eq_append_getElem (by rw [size_list]; exact h)]; rfl
theorem drop_at (X : ByteArray) (k : Nat) (h : k < X.size) : X[k] :: X.data.toList.drop (k + 1) = X.data.toList.drop k :=
  List.getElem_cons_drop (h := by rw [size_list]; exact h)
theorem bytes_at (X : ByteArray) (k : Nat) (h : k < X.size) : X.data.toList = X.data.toList.take k ++ X[k] :: X.data.toList.drop (k + 1) := by
  rw [drop_at X k h, List.take_append_drop]
theorem all_snoc {l : List UInt8} {c : UInt8} (h : l.all isDig = true) (hc : isDig c = true) : (l ++ [c]).all isDig = true := by
  rw [List.all_append, h]; simp [hc]
theorem one_bytes (X : ByteArray) (k : Nat) (h : k < X.size) : (X.extract k (k + 1)).data.toList = [X[k]] := by
  rw [Lib.extract_data, show k + 1 - k = 1 by omega]
  rw [← drop_at X k h]; rfl
theorem form_point {X : ByteArray} {k : Nat} {A B : ByteArray} (h : k < X.size) (hi : FormAt X k A B false) (hc : X[k] = 46) : FormAt X (k + 1) A B true := by
  obtain ⟨h1, h2, h3⟩ := hi
  refine ⟨?_, h2, h3⟩
  rw [bytes_succ X k h, split_append, h1, if_neg (by simp), hc]
  have e := split_free (l := X.data.toList.take k) (by rw [h1]; simp)
  rw [h1] at e
  dsimp only at e
  show (X.data.toList.take k ++ [], ([] : List UInt8), true) = _
  rw [List.append_nil, ← e.1, e.2]
theorem form_part {X : ByteArray} {k : Nat} {A B : ByteArray} (h : k < X.size) (hi : FormAt X k A B true) (hc : isDig X[k] = true) : FormAt X (k + 1) A (B ++ X.extract k (k + 1)) true := by
  obtain ⟨h1, h2, h3⟩ := hi
  have e : (B ++ X.extract k (k + 1)).data.toList = B.data.toList ++ [X[k]] := by simp only [ByteArray.data_append, Array.toList_append]; rw [one_bytes X k h]
  refine ⟨?_, h2, ?_⟩
  · rw [e, bytes_succ X k h, split_append, h1, if_pos rfl]
  · rw [e]; exact all_snoc h3 hc
theorem not_point {c : UInt8} (hc : isDig c = true) : ¬ c = 46 := by rintro rfl; cases hc
theorem form_whole {X : ByteArray} {k : Nat} {A B : ByteArray} (h : k < X.size) (hi : FormAt X k A B false) (hc : isDig X[k] = true) : FormAt X (k + 1) (A ++ X.extract k (k + 1)) B false := by
  obtain ⟨h1, h2, h3⟩ := hi
  have e : (A ++ X.extract k (k + 1)).data.toList = A.data.toList ++ [X[k]] := by simp only [ByteArray.data_append, Array.toList_append]; rw [one_bytes X k h]
  refine ⟨?_, ?_, h3⟩
  · have e2 := split_free (l := X.data.toList.take k) (by rw [h1]; simp)
    rw [h1] at e2
    dsimp only at e2
    rw [e, bytes_succ X k h, split_append, h1, if_neg (by simp), splitP_cons, if_neg (not_point hc)]
    show (X.data.toList.take k ++ [X[k]], ([] : List UInt8), false) = _
    rw [← e2.1, e2.2]
  · rw [e]; exact all_snoc h2 hc
theorem form_bad {l : List UInt8} {X : ByteArray} {k : Nat} {A B : ByteArray} {f : Bool} (hX : X.data.toList = bodyL l) (h : k < X.size) (hi : FormAt X k A B f) (hc : ¬ isDig X[k] = true) (hp : f = true ∨ ¬ X[k] = 46) : goodR l = false := by
  obtain ⟨h1, _, _⟩ := hi
  have e : (befL l).all isDig = false ∨ (aftL l).all isDig = false := by
    unfold befL aftL
    rw [← hX, bytes_at X k h, split_append, h1]
    by_cases hf : f = true
    · rw [if_pos hf]
      right
      show (B.data.toList ++ X[k] :: _).all isDig = false
      rw [List.all_append, List.all_cons, Bool.eq_false_iff.2 hc, Bool.false_and, Bool.and_false]
    · rw [if_neg hf, splitP_cons, if_neg (by rcases hp with hp | hp; exact absurd hp hf; exact hp)]
      left
      show (X.data.toList.take k ++ X[k] :: _).all isDig = false
      rw [List.all_append, List.all_cons, Bool.eq_false_iff.2 hc, Bool.false_and, Bool.and_false]
  unfold goodR
  rcases e with e | e <;> rw [e] <;> simp
theorem form_done {s X : ByteArray} {A B : ByteArray} {f m : Bool} {w : World} (hX : X.data.toList = bodyL s.data.toList) (h40 : s.size ≤ 40) (hi : FormAt X X.size A B f) (hm : minusL s.data.toList = m) :
    FormEnd s.data.toList w (.returned (.tuple #[.string A, .string B, .bool m, .bool (decide (0 < (A.size : Int) + (B.size : Int)))])) w := by
  obtain ⟨h1, h2, h3⟩ := hi
  rw [List.take_of_length_le (by rw [size_list]; omega), hX] at h1
  have eA : befL s.data.toList = A.data.toList := by unfold befL; rw [h1]
  have eB : aftL s.data.toList = B.data.toList := by unfold aftL; rw [h1]
  refine ⟨⟨A, B, m, _, rfl, ?_, fun _ => ⟨eA.symm, eB.symm, hm.symm⟩⟩, rfl⟩
  unfold goodR
  rw [eA, eB, h2, h3, decide_eq_true (by rw [size_list]; exact h40)]
  show (!(A.data.toList ++ B.data.toList).isEmpty) = _
  rw [← size_list A, ← size_list B]
  cases A.data.toList with
  | nil => cases B.data.toList with
    | nil => rfl
    | cons b t => first | (simp; done) | (simp; omega)
  | cons a t => first | (simp; done) | (simp; omega)
theorem dig_facts {c : UInt8} (h : isDig c = true) : ¬ (c.toNat : Int) < 48 ∧ ¬ (57 : Int) < (c.toNat : Int) ∧ ((c.toNat : Int) == 46) = false := by
  have := isDig_yes h
  refine ⟨by omega, by omega, ?_⟩
  simp only [beq_eq_false_iff_ne, ne_eq]
  omega
end Go.Proofs.YtdpbpdikgcepbaaGreatDoor
namespace Go.Proofs.YtdpbpdikgcepbaaGreatDoor
open Go.RowKit Fix

set_option maxHeartbeats 3200000 in
theorem form_minus (s X : ByteArray) (w : World) (hs40 : s.size ≤ 40) (h0 : 1 ≤ s.size) (hc : s[0] = 45) (hX0 : X = s.extract 1 s.size) (hX : X.data.toList = bodyL s.data.toList) (hm : minusL s.data.toList = true) :
    Calls Tryz.prog 122 #[.string s] w (FormEnd s.data.toList w) := by
  have hs40' : ¬ (40 : Int) < (s.size : Int) := by omega
  have HF := Lib.hid (And.intro hX (And.intro hs40 hm))
  have e1 : s.toList.isEmpty = false := by rw [Lib.toList_data, List.isEmpty_eq_false_iff]; intro e; have := congrArg List.length e; rw [size_list, List.length_nil] at this; omega
  have e2 : ((s[0].toNat : Int) == 43) = false := by rw [hc]; rfl
  have e3 : ((s[0].toNat : Int) == 45) = true := by rw [hc]; rfl
  have e4 : (1 : Int) ≤ (s.size : Int) := by omega
  clear hc
  have hX40 : X.size ≤ 40 := by rw [hX0]; simp; omega
  have HX0 := Lib.hid hX0
  clear hX hm hX0
  go_enter Tryz.func122, Tryz.ntmps122
  go_wp2
  try rw [← HX0.out]
  go_loop [7, 8, 9, 10] (fun a b p i => ∃ (k : Nat) (A B : ByteArray) (f : Bool), k ≤ X.size ∧ a = .string A ∧ b = .string B ∧ p = .bool f ∧ i = .int .i64 k ∧ A.size ≤ k ∧ B.size ≤ k ∧ Hid (FormAt X k A B f)) (fun _ _ _ i => X.size - (intOf i).toNat)
  case atStart => exact ⟨0, ⟨#[]⟩, ⟨#[]⟩, false, by omega, rfl, rfl, rfl, rfl, by decide, by decide, Lib.hid ⟨rfl, rfl, rfl⟩⟩
  case round =>
    obtain ⟨k, A, B, f, hk, rfl, rfl, rfl, rfl, hA, hB, hi⟩ := hrel
    by_cases hlt : k < X.size
    · by_cases hd : isDig X[k] = true
      · obtain ⟨d1, d2, d3⟩ := dig_facts hd
        cases f
        · have HN := Lib.hid (form_whole hlt hi.out hd)
          have hsz : (A ++ X.extract k (k + 1)).size ≤ k + 1 := by rw [ByteArray.size_append]; simp; omega
          have HSZ := Lib.hid hsz
          clear hd hsz
          go_wp2
          go_round
          case rel => exact ⟨k + 1, _, B, false, by omega, rfl, rfl, rfl, by go_num, HSZ.out, by omega, Lib.hid HN.out⟩
          case measure => simp [intOf]; omega
        · have HN := Lib.hid (form_part hlt hi.out hd)
          have hsz : (B ++ X.extract k (k + 1)).size ≤ k + 1 := by rw [ByteArray.size_append]; simp; omega
          have HSZ := Lib.hid hsz
          clear hd hsz
          go_wp2
          go_round
          case rel => exact ⟨k + 1, A, _, true, by omega, rfl, rfl, rfl, by go_num, by omega, HSZ.out, Lib.hid HN.out⟩
          case measure => simp [intOf]; omega
      · by_cases hp : f = false ∧ X[k] = 46
        · obtain ⟨rfl, hp⟩ := hp
          have HN := Lib.hid (form_point hlt hi.out hp)
          have hp' : ((X[k].toNat : Int) == 46) = true := by rw [hp]; rfl
          clear hd hp
          go_wp2
          go_round
          case rel => exact ⟨k + 1, A, B, true, by omega, rfl, rfl, rfl, by go_num, by omega, by omega, Lib.hid HN.out⟩
          case measure => simp [intOf]; omega
        · have HX := Lib.hid (form_bad HF.out.1 hlt hi.out hd (by
            by_cases hf : f = true
            · exact Or.inl hf
            · exact Or.inr fun e => hp ⟨Bool.eq_false_iff.2 hf, e⟩))
          have hp' : ((X[k].toNat : Int) == 46) = true ∧ f = true ∨ ((X[k].toNat : Int) == 46) = false := by
            by_cases he : X[k] = 46
            · exact Or.inl ⟨by rw [he]; rfl, by
                by_cases hf : f = true
                · exact hf
                · exact absurd ⟨Bool.eq_false_iff.2 hf, he⟩ hp⟩
            · refine Or.inr ?_
              simp only [beq_eq_false_iff_ne, ne_eq]
              intro e
              exact he (UInt8.toNat_inj.1 (show _ = 46 by omega))
          rcases hp' with ⟨q1, rfl⟩ | q1
          all_goals
            rcases isDig_no hd with d1 | d1
            all_goals
              first
                | have d2 : (X[k].toNat : Int) < 48 := by omega
                | (have d2 : (57 : Int) < (X[k].toNat : Int) := by omega
                   have d3 : ¬ (X[k].toNat : Int) < 48 := by omega)
              clear hd hp d1
              go_wp2
              refine ends_four rfl rfl ?_
              exact formEnd_no HX.out
    · obtain rfl : k = X.size := by omega
      have HX := Lib.hid hi
      clear hi
      go_wp2
      refine ends_four rfl rfl ?_
      exact form_done HF.out.1 HF.out.2.1 HX.out.out HF.out.2.2

set_option maxHeartbeats 3200000 in
theorem form_plus (s X : ByteArray) (w : World) (hs40 : s.size ≤ 40) (h0 : 1 ≤ s.size) (hc : s[0] = 43) (hX0 : X = s.extract 1 s.size) (hX : X.data.toList = bodyL s.data.toList) (hm : minusL s.data.toList = false) :
    Calls Tryz.prog 122 #[.string s] w (FormEnd s.data.toList w) := by
  have hs40' : ¬ (40 : Int) < (s.size : Int) := by omega
  have HF := Lib.hid (And.intro hX (And.intro hs40 hm))
  have e1 : s.toList.isEmpty = false := by rw [Lib.toList_data, List.isEmpty_eq_false_iff]; intro e; have := congrArg List.length e; rw [size_list, List.length_nil] at this; omega
  have e2 : ((s[0].toNat : Int) == 43) = true := by rw [hc]; rfl
  have e3 : ((s[0].toNat : Int) == 45) = false := by rw [hc]; rfl
  have e4 : (1 : Int) ≤ (s.size : Int) := by omega
  clear hc
  have hX40 : X.size ≤ 40 := by rw [hX0]; simp; omega
  have HX0 := Lib.hid hX0
  clear hX hm hX0
  go_enter Tryz.func122, Tryz.ntmps122
  go_wp2
  try rw [← HX0.out]
  go_loop [7, 8, 9, 10] (fun a b p i => ∃ (k : Nat) (A B : ByteArray) (f : Bool), k ≤ X.size ∧ a = .string A ∧ b = .string B ∧ p = .bool f ∧ i = .int .i64 k ∧ A.size ≤ k ∧ B.size ≤ k ∧ Hid (FormAt X k A B f)) (fun _ _ _ i => X.size - (intOf i).toNat)
  case atStart => exact ⟨0, ⟨#[]⟩, ⟨#[]⟩, false, by omega, rfl, rfl, rfl, rfl, by decide, by decide, Lib.hid ⟨rfl, rfl, rfl⟩⟩
  case round =>
    obtain ⟨k, A, B, f, hk, rfl, rfl, rfl, rfl, hA, hB, hi⟩ := hrel
    by_cases hlt : k < X.size
    · by_cases hd : isDig X[k] = true
      · obtain ⟨d1, d2, d3⟩ := dig_facts hd
        cases f
        · have HN := Lib.hid (form_whole hlt hi.out hd)
          have hsz : (A ++ X.extract k (k + 1)).size ≤ k + 1 := by rw [ByteArray.size_append]; simp; omega
          have HSZ := Lib.hid hsz
          clear hd hsz
          go_wp2
          go_round
          case rel => exact ⟨k + 1, _, B, false, by omega, rfl, rfl, rfl, by go_num, HSZ.out, by omega, Lib.hid HN.out⟩
          case measure => simp [intOf]; omega
        · have HN := Lib.hid (form_part hlt hi.out hd)
          have hsz : (B ++ X.extract k (k + 1)).size ≤ k + 1 := by rw [ByteArray.size_append]; simp; omega
          have HSZ := Lib.hid hsz
          clear hd hsz
          go_wp2
          go_round
          case rel => exact ⟨k + 1, A, _, true, by omega, rfl, rfl, rfl, by go_num, by omega, HSZ.out, Lib.hid HN.out⟩
          case measure => simp [intOf]; omega
      · by_cases hp : f = false ∧ X[k] = 46
        · obtain ⟨rfl, hp⟩ := hp
          have HN := Lib.hid (form_point hlt hi.out hp)
          have hp' : ((X[k].toNat : Int) == 46) = true := by rw [hp]; rfl
          clear hd hp
          go_wp2
          go_round
          case rel => exact ⟨k + 1, A, B, true, by omega, rfl, rfl, rfl, by go_num, by omega, by omega, Lib.hid HN.out⟩
          case measure => simp [intOf]; omega
        · have HX := Lib.hid (form_bad HF.out.1 hlt hi.out hd (by
            by_cases hf : f = true
            · exact Or.inl hf
            · exact Or.inr fun e => hp ⟨Bool.eq_false_iff.2 hf, e⟩))
          have hp' : ((X[k].toNat : Int) == 46) = true ∧ f = true ∨ ((X[k].toNat : Int) == 46) = false := by
            by_cases he : X[k] = 46
            · exact Or.inl ⟨by rw [he]; rfl, by
                by_cases hf : f = true
                · exact hf
                · exact absurd ⟨Bool.eq_false_iff.2 hf, he⟩ hp⟩
            · refine Or.inr ?_
              simp only [beq_eq_false_iff_ne, ne_eq]
              intro e
              exact he (UInt8.toNat_inj.1 (show _ = 46 by omega))
          rcases hp' with ⟨q1, rfl⟩ | q1
          all_goals
            rcases isDig_no hd with d1 | d1
            all_goals
              first
                | have d2 : (X[k].toNat : Int) < 48 := by omega
                | (have d2 : (57 : Int) < (X[k].toNat : Int) := by omega
                   have d3 : ¬ (X[k].toNat : Int) < 48 := by omega)
              clear hd hp d1
              go_wp2
              refine ends_four rfl rfl ?_
              exact formEnd_no HX.out
    · obtain rfl : k = X.size := by omega
      have HX := Lib.hid hi
      clear hi
      go_wp2
      refine ends_four rfl rfl ?_
      exact form_done HF.out.1 HF.out.2.1 HX.out.out HF.out.2.2

set_option maxHeartbeats 3200000 in
theorem form_none (s : ByteArray) (w : World) (hs40 : s.size ≤ 40) (h0 : 1 ≤ s.size) (hc : ¬ s[0] = 45) (hc2 : ¬ s[0] = 43) (hX : s.data.toList = bodyL s.data.toList) (hm : minusL s.data.toList = false) :
    Calls Tryz.prog 122 #[.string s] w (FormEnd s.data.toList w) := by
  have hs40' : ¬ (40 : Int) < (s.size : Int) := by omega
  have HF := Lib.hid (And.intro hX (And.intro hs40 hm))
  have e1 : s.toList.isEmpty = false := by rw [Lib.toList_data, List.isEmpty_eq_false_iff]; intro e; have := congrArg List.length e; rw [size_list, List.length_nil] at this; omega
  have e2 : ((s[0].toNat : Int) == 43) = false := by simp only [beq_eq_false_iff_ne, ne_eq]; intro e; exact hc2 (UInt8.toNat_inj.1 (show _ = 43 by omega))
  have e3 : ((s[0].toNat : Int) == 45) = false := by simp only [beq_eq_false_iff_ne, ne_eq]; intro e; exact hc (UInt8.toNat_inj.1 (show _ = 45 by omega))
  have e4 : (1 : Int) ≤ (s.size : Int) := by omega
  clear hc hc2
  clear hX hm
  go_enter Tryz.func122, Tryz.ntmps122
  go_wp2
  go_loop [7, 8, 9, 10] (fun a b p i => ∃ (k : Nat) (A B : ByteArray) (f : Bool), k ≤ s.size ∧ a = .string A ∧ b = .string B ∧ p = .bool f ∧ i = .int .i64 k ∧ A.size ≤ k ∧ B.size ≤ k ∧ Hid (FormAt s k A B f)) (fun _ _ _ i => s.size - (intOf i).toNat)
  case atStart => exact ⟨0, ⟨#[]⟩, ⟨#[]⟩, false, by omega, rfl, rfl, rfl, rfl, by decide, by decide, Lib.hid ⟨rfl, rfl, rfl⟩⟩
  case round =>
    obtain ⟨k, A, B, f, hk, rfl, rfl, rfl, rfl, hA, hB, hi⟩ := hrel
    by_cases hlt : k < s.size
    · by_cases hd : isDig s[k] = true
      · obtain ⟨d1, d2, d3⟩ := dig_facts hd
        cases f
        · have HN := Lib.hid (form_whole hlt hi.out hd)
          have hsz : (A ++ s.extract k (k + 1)).size ≤ k + 1 := by rw [ByteArray.size_append]; simp; omega
          have HSZ := Lib.hid hsz
          clear hd hsz
          go_wp2
          go_round
          case rel => exact ⟨k + 1, _, B, false, by omega, rfl, rfl, rfl, by go_num, HSZ.out, by omega, Lib.hid HN.out⟩
          case measure => simp [intOf]; omega
        · have HN := Lib.hid (form_part hlt hi.out hd)
          have hsz : (B ++ s.extract k (k + 1)).size ≤ k + 1 := by rw [ByteArray.size_append]; simp; omega
          have HSZ := Lib.hid hsz
          clear hd hsz
          go_wp2
          go_round
          case rel => exact ⟨k + 1, A, _, true, by omega, rfl, rfl, rfl, by go_num, by omega, HSZ.out, Lib.hid HN.out⟩
          case measure => simp [intOf]; omega
      · by_cases hp : f = false ∧ s[k] = 46
        · obtain ⟨rfl, hp⟩ := hp
          have HN := Lib.hid (form_point hlt hi.out hp)
          have hp' : ((s[k].toNat : Int) == 46) = true := by rw [hp]; rfl
          clear hd hp
          go_wp2
          go_round
          case rel => exact ⟨k + 1, A, B, true, by omega, rfl, rfl, rfl, by go_num, by omega, by omega, Lib.hid HN.out⟩
          case measure => simp [intOf]; omega
        · have HX := Lib.hid (form_bad HF.out.1 hlt hi.out hd (by
            by_cases hf : f = true
            · exact Or.inl hf
            · exact Or.inr fun e => hp ⟨Bool.eq_false_iff.2 hf, e⟩))
          have hp' : ((s[k].toNat : Int) == 46) = true ∧ f = true ∨ ((s[k].toNat : Int) == 46) = false := by
            by_cases he : s[k] = 46
            · exact Or.inl ⟨by rw [he]; rfl, by
                by_cases hf : f = true
                · exact hf
                · exact absurd ⟨Bool.eq_false_iff.2 hf, he⟩ hp⟩
            · refine Or.inr ?_
              simp only [beq_eq_false_iff_ne, ne_eq]
              intro e
              exact he (UInt8.toNat_inj.1 (show _ = 46 by omega))
          rcases hp' with ⟨q1, rfl⟩ | q1
          all_goals
            rcases isDig_no hd with d1 | d1
            all_goals
              first
                | have d2 : (s[k].toNat : Int) < 48 := by omega
                | (have d2 : (57 : Int) < (s[k].toNat : Int) := by omega
                   have d3 : ¬ (s[k].toNat : Int) < 48 := by omega)
              clear hd hp d1
              go_wp2
              refine ends_four rfl rfl ?_
              exact formEnd_no HX.out
    · obtain rfl : k = s.size := by omega
      have HX := Lib.hid hi
      clear hi
      go_wp2
      refine ends_four rfl rfl ?_
      exact form_done HF.out.1 HF.out.2.1 HX.out.out HF.out.2.2

set_option maxHeartbeats 3200000 in
theorem form_empty (s : ByteArray) (w : World) (hs40 : s.size ≤ 40) (h0 : s.size = 0) (hX : s.data.toList = bodyL s.data.toList) (hm : minusL s.data.toList = false) :
    Calls Tryz.prog 122 #[.string s] w (FormEnd s.data.toList w) := by
  have hs40' : ¬ (40 : Int) < (s.size : Int) := by omega
  have HF := Lib.hid (And.intro hX (And.intro hs40 hm))
  have e1 : s.toList.isEmpty = true := by rw [Lib.toList_data, List.isEmpty_iff]; exact List.eq_nil_of_length_eq_zero (by rw [size_list]; exact h0)
  have h0' : s.size ≤ 0 := by omega
  clear hX hm h0
  go_enter Tryz.func122, Tryz.ntmps122
  go_wp2
  go_loop [7, 8, 9, 10] (fun a b p i => ∃ (k : Nat) (A B : ByteArray) (f : Bool), k ≤ s.size ∧ a = .string A ∧ b = .string B ∧ p = .bool f ∧ i = .int .i64 k ∧ A.size ≤ k ∧ B.size ≤ k ∧ Hid (FormAt s k A B f)) (fun _ _ _ i => s.size - (intOf i).toNat)
  case atStart => exact ⟨0, ⟨#[]⟩, ⟨#[]⟩, false, by omega, rfl, rfl, rfl, rfl, by decide, by decide, Lib.hid ⟨rfl, rfl, rfl⟩⟩
  case round =>
    obtain ⟨k, A, B, f, hk, rfl, rfl, rfl, rfl, hA, hB, hi⟩ := hrel
    by_cases hlt : k < s.size
    · exact absurd hlt (by omega)
    · obtain rfl : k = s.size := by omega
      have HX := Lib.hid hi
      clear hi
      go_wp2
      refine ends_four rfl rfl ?_
      exact form_done HF.out.1 HF.out.2.1 HX.out.out HF.out.2.2

theorem form_long (s : ByteArray) (w : World) (h : 40 < s.size) :
    Calls Tryz.prog 122 #[.string s] w (FormEnd s.data.toList w) := by
  have h' : (40 : Int) < (s.size : Int) := by omega
  have HG := Lib.hid (show goodR s.data.toList = false by unfold goodR; rw [decide_eq_false (by rw [size_list]; omega)]; rfl)
  go_enter Tryz.func122, Tryz.ntmps122
  go_wp2
  refine ends_four rfl rfl ?_
  exact formEnd_no HG.out

theorem form_any (s : ByteArray) (w : World) :
    Calls Tryz.prog 122 #[.string s] w (FormEnd s.data.toList w) := by
  by_cases h40 : 40 < s.size
  · exact form_long s w h40
  · have hlen := size_list s
    cases hl : s.data.toList with
    | nil =>
      rw [← hl]
      rw [hl, List.length_nil] at hlen
      exact form_empty s w (by omega) hlen.symm (by rw [hl]; rfl) (by rw [hl]; rfl)
    | cons c t =>
      rw [← hl]
      have hlen2 : 1 ≤ s.size := by rw [hl, List.length_cons] at hlen; omega
      have h0 : s[0] = c := by
        have e : s.data.toList[0]? = some c := by rw [hl]; rfl
        rw [List.getElem?_eq_getElem (by rw [size_list]; omega)] at e
        exact Option.some.inj e
      have hd : (s.extract 1 s.size).data.toList = t := by rw [drop1, hl]; rfl
      by_cases h1 : c = 45
      · subst h1
        exact form_minus s _ w (by omega) hlen2 h0 rfl (by rw [hd, hl]; rfl) (by rw [hl]; rfl)
      · by_cases h2 : c = 43
        · subst h2
          exact form_plus s _ w (by omega) hlen2 h0 rfl (by rw [hd, hl]; rfl) (by rw [hl]; rfl)
        · exact form_none s w (by omega) hlen2 (by rw [h0]; exact h1) (by rw [h0]; exact h2) (by rw [hl]; unfold bodyL; simp [h1, h2]) (by rw [hl]; unfold minusL; simpa using h1)
end Go.Proofs.YtdpbpdikgcepbaaGreatDoor
namespace Go.Proofs.YtdpbpdikgcepbaaGreatDoor
open Go.RowKit Fix

theorem withinR_yes (n : Int) (w : World) (h : inRange n = true) :
    Calls Tryz.prog 123 #[.int .i64 n] w fun e w' => e = .returned (.bool true) ∧ w = w' := by
  obtain ⟨h1, h2⟩ := inRange_yes h
  clear h
  go_enter Tryz.func123, Tryz.ntmps123
  go_wp2
  go_ret
  exact ⟨rfl, rfl⟩
theorem withinR_no (n : Int) (w : World) (h : ¬ inRange n = true) :
    Calls Tryz.prog 123 #[.int .i64 n] w fun e w' => e = .returned (.bool false) ∧ w = w' := by
  rcases inRange_no h with h1 | h1
  · clear h
    have h2 : ¬ -1073741824 ≤ n := by omega
    go_enter Tryz.func123, Tryz.ntmps123
    go_wp2
    go_ret
    exact ⟨rfl, rfl⟩
  · clear h
    have h2 : -1073741824 ≤ n := by omega
    have h3 : ¬ n ≤ 1073741824 := by omega
    go_enter Tryz.func123, Tryz.ntmps123
    go_wp2
    go_ret
    exact ⟨rfl, rfl⟩
end Go.Proofs.YtdpbpdikgcepbaaGreatDoor
namespace Go.Proofs.YtdpbpdikgcepbaaGreatDoor
open Go.RowKit Fix

theorem valM_bounds (l : List UInt8) (h : l.all isDig = true) : 0 ≤ valM 0 l ∧ valM 0 l ≤ 1099511627776 := by
  have e := valM_eq 0 l (by decide) h
  rw [show min (0 : Int) 1099511627776 = 0 from rfl] at e
  have := valL_ge 0 l (by decide) h
  omega
theorem valM_next (X : ByteArray) (k : Nat) (h : k < X.size) (n : Int) (hn : n = valM 0 (X.data.toList.take k)) : min (10 * n + ((X[k].toNat : Int) - 48)) 1099511627776 = valM 0 (X.data.toList.take (k + 1)) := by
  rw [bytes_succ X k h, valM_snoc, hn]
/-- Whether a byte above '0' stands among those up to k. -/
def someK (l : List UInt8) (k : Nat) : Bool := someUp (l.take k)
theorem someUp_snoc (l : List UInt8) (c : UInt8) (h : l ≠ []) : someUp (l ++ [c]) = (someUp l || decide (48 < c.toNat)) := by
  cases l with
  | nil => exact absurd rfl h
  | cons b t =>
    show (decide (53 < b.toNat) || (t ++ [c]).any fun b => decide (48 < b.toNat)) = _
    rw [List.any_append]
    show _ = ((decide (53 < b.toNat) || t.any fun b => decide (48 < b.toNat)) || decide (48 < c.toNat))
    simp [Bool.or_assoc]
theorem someK_next (X : ByteArray) (k : Nat) (h : k < X.size) (h1 : 1 ≤ k) : someK X.data.toList (k + 1) = (someK X.data.toList k || decide (48 < X[k].toNat)) := by
  unfold someK
  rw [bytes_succ X k h, someUp_snoc]
  intro e
  have := congrArg List.length e
  rw [List.length_take, size_list, List.length_nil] at this
  omega
theorem someK_one (X : ByteArray) (h : 0 < X.size) : someK X.data.toList 1 = decide (53 < X[0].toNat) := by
  unfold someK
  rw [bytes_succ X 0 h]
  show (decide (53 < X[0].toNat) || _) = _
  simp
theorem five_at (X : ByteArray) (h : 0 < X.size) : fiveUp X.data.toList = decide (53 ≤ X[0].toNat) := by
  have e := drop_at X 0 h
  rw [List.drop_zero] at e
  rw [← e]
  rfl
end Go.Proofs.YtdpbpdikgcepbaaGreatDoor
namespace Go.Proofs.YtdpbpdikgcepbaaGreatDoor
open Go.RowKit Fix

/-- What the walks of Read are handed: the parts of a well-formed number. -/
structure Parts (s A B H R : ByteArray) (m : Bool) (v : Int) : Prop where
  good : goodR s.data.toList = true
  head : H.data.toList = headL s.data.toList
  sum : H = A ++ (B ++ ⟨#[48, 48, 48, 48]⟩).extract 0 4
  rest : R.data.toList = (aftL s.data.toList).drop 4
  minus : minusL s.data.toList = m
  val : valM 0 (headL s.data.toList) = v
  form : ∀ w : World, Calls Tryz.prog 122 #[.string s] w fun e w' => e = .returned (.tuple #[.string A, .string B, .bool m, .bool true]) ∧ w = w'
  a40 : A.size ≤ 40
  b40 : B.size ≤ 40
  h60 : H.size ≤ 60
def ReadEnd (l : List UInt8) (w : World) (e : Ending) (w' : World) : Prop := e = .returned (.tuple #[.int .i64 (readN l), .int .i64 (readE l)]) ∧ w = w'
theorem readEnd_yes {l : List UInt8} {w : World} {x : Int} (hg : goodR l = true) (hx : refX l = x) (hr : inRange x = true) : ReadEnd l w (.returned (.tuple #[.int .i64 x, .int .i64 0])) w := by
  obtain ⟨h1, h2⟩ := ref_range hg
  have hb : readBig l = false := by
    have h3 : (!readBig l) = true := by rw [← h1, hx]; exact hr
    simpa using h3
  refine ⟨?_, rfl⟩
  unfold readN readE
  rw [if_pos hg, if_pos hg, hb, ← hx, h2 hb]
  rfl
theorem readEnd_no {l : List UInt8} {w : World} {x : Int} (hg : goodR l = true) (hx : refX l = x) (hr : ¬ inRange x = true) : ReadEnd l w (.returned (.tuple #[.int .i64 0, .int .i64 2])) w := by
  obtain ⟨h1, h2⟩ := ref_range hg
  have hb : readBig l = true := by
    have h3 : (!readBig l) = false := by rw [← h1, hx]; exact Bool.eq_false_iff.2 hr
    simpa using h3
  refine ⟨?_, rfl⟩
  unfold readN readE
  rw [if_pos hg, if_pos hg, hb]
  rfl
theorem refX_of {l : List UInt8} {m u : Bool} {v x : Int} (hm : minusL l = m) (hu : upL l = u) (hv : valM 0 (headL l) = v) (hx : (if m then -(if u then v + 1 else v) else (if u then v + 1 else v)) = x) : refX l = x := by
  unfold refX
  rw [hm, hu, hv, hx]
theorem up_of {s A B H R : ByteArray} {m : Bool} {v : Int} (P : Parts s A B H R m v) : upL s.data.toList = moreR R.data.toList m := by
  rw [up_eq P.good, P.minus, ← P.rest]

set_option maxHeartbeats 3200000 in
theorem readR_shortp (s A B H R : ByteArray) (v : Int) (w : World) (P : Hid (Parts s A B H R false v)) (h0 : R.data.toList = []) (hR : B.size ≤ 4) :
    Calls Tryz.prog 106 #[.string s] w (ReadEnd s.data.toList w) := by
  have a40 := P.out.a40
  have b40 := P.out.b40
  have h60 := P.out.h60
  have hR' : ¬ (4 : Int) < (B.size : Int) := by omega
  have HU : Hid (moreR R.data.toList false = false) := Lib.hid (by rw [h0]; rfl)
  clear h0
  go_enter Tryz.func106, Tryz.ntmps106
  go_wp2_with fail
  refine (P.out.form _).mono ?_
  rintro e w' ⟨rfl, rfl⟩
  go_wp2_with fail
  rw [← P.out.sum]
  go_loop [8, 10] (fun a i => ∃ (k : Nat) (n : Int), k ≤ H.size ∧ a = .int .i64 n ∧ i = .int .i64 k ∧ 0 ≤ n ∧ n ≤ 1099511627776 ∧ Hid (n = valM 0 (H.data.toList.take k))) (fun _ i => H.size - (intOf i).toNat)
  case atStart => exact ⟨0, 0, by omega, rfl, rfl, by omega, by omega, Lib.hid rfl⟩
  case round =>
    obtain ⟨k, n, hk, rfl, rfl, n0, n1, hn⟩ := hrel
    by_cases hlt : k < H.size
    · have hm : isDig H[k] = true := (List.all_eq_true.1 (by rw [P.out.head]; exact head_dig P.out.good : H.data.toList.all isDig = true)) H[k] (by rw [Array.mem_toList_iff]; exact Array.getElem_mem hlt)
      obtain ⟨d1, d2⟩ := isDig_yes hm
      have HNX := Lib.hid (valM_next H k hlt n hn.out)
      have hw2 : IntKind.u8.wrap ((H[k].toNat : Int) - 48) = (H[k].toNat : Int) - 48 := by
        rw [show (H[k].toNat : Int) - 48 = ((H[k].toNat - 48 : Nat) : Int) by omega]
        exact IntWalk.u8_in _ (by omega)
      have hw3 : IntKind.i64.wrap ((H[k].toNat : Int) - 48) = (H[k].toNat : Int) - 48 := IntWalk.i64_in _ (by omega)
      clear hm
      go_wp2
      go_round
      case rel => exact ⟨k + 1, _, by omega, rfl, by go_num, by omega, by omega, Lib.hid HNX.out⟩
      case measure => simp [intOf]; omega
    · have hnv : n = v := by rw [hn.out, List.take_of_length_le (by rw [size_list]; omega), P.out.head]; exact P.out.val
      subst hnv
      clear hn
      have HX := Lib.hid (refX_of (x := n) P.out.minus ((up_of P.out).trans HU.out) P.out.val rfl)
      by_cases hr : inRange n = true
      · have HR := Lib.hid hr
        clear hr
        go_wp2_with fail
        refine (withinR_yes _ _ HR.out).mono ?_
        rintro e w' ⟨rfl, rfl⟩
        go_wp2_with fail
        go_ret2
        exact readEnd_yes P.out.good HX.out HR.out
      · have HR := Lib.hid hr
        clear hr
        go_wp2_with fail
        refine (withinR_no _ _ HR.out).mono ?_
        rintro e w' ⟨rfl, rfl⟩
        go_wp2_with fail
        go_ret2
        exact readEnd_no P.out.good HX.out HR.out

set_option maxHeartbeats 3200000 in
theorem readR_shortm (s A B H R : ByteArray) (v : Int) (w : World) (P : Hid (Parts s A B H R true v)) (h0 : R.data.toList = []) (hR : B.size ≤ 4) :
    Calls Tryz.prog 106 #[.string s] w (ReadEnd s.data.toList w) := by
  have a40 := P.out.a40
  have b40 := P.out.b40
  have h60 := P.out.h60
  have hR' : ¬ (4 : Int) < (B.size : Int) := by omega
  have HU : Hid (moreR R.data.toList true = false) := Lib.hid (by rw [h0]; rfl)
  clear h0
  go_enter Tryz.func106, Tryz.ntmps106
  go_wp2_with fail
  refine (P.out.form _).mono ?_
  rintro e w' ⟨rfl, rfl⟩
  go_wp2_with fail
  rw [← P.out.sum]
  go_loop [8, 10] (fun a i => ∃ (k : Nat) (n : Int), k ≤ H.size ∧ a = .int .i64 n ∧ i = .int .i64 k ∧ 0 ≤ n ∧ n ≤ 1099511627776 ∧ Hid (n = valM 0 (H.data.toList.take k))) (fun _ i => H.size - (intOf i).toNat)
  case atStart => exact ⟨0, 0, by omega, rfl, rfl, by omega, by omega, Lib.hid rfl⟩
  case round =>
    obtain ⟨k, n, hk, rfl, rfl, n0, n1, hn⟩ := hrel
    by_cases hlt : k < H.size
    · have hm : isDig H[k] = true := (List.all_eq_true.1 (by rw [P.out.head]; exact head_dig P.out.good : H.data.toList.all isDig = true)) H[k] (by rw [Array.mem_toList_iff]; exact Array.getElem_mem hlt)
      obtain ⟨d1, d2⟩ := isDig_yes hm
      have HNX := Lib.hid (valM_next H k hlt n hn.out)
      have hw2 : IntKind.u8.wrap ((H[k].toNat : Int) - 48) = (H[k].toNat : Int) - 48 := by
        rw [show (H[k].toNat : Int) - 48 = ((H[k].toNat - 48 : Nat) : Int) by omega]
        exact IntWalk.u8_in _ (by omega)
      have hw3 : IntKind.i64.wrap ((H[k].toNat : Int) - 48) = (H[k].toNat : Int) - 48 := IntWalk.i64_in _ (by omega)
      clear hm
      go_wp2
      go_round
      case rel => exact ⟨k + 1, _, by omega, rfl, by go_num, by omega, by omega, Lib.hid HNX.out⟩
      case measure => simp [intOf]; omega
    · have hnv : n = v := by rw [hn.out, List.take_of_length_le (by rw [size_list]; omega), P.out.head]; exact P.out.val
      subst hnv
      clear hn
      have HX := Lib.hid (refX_of (x := (-n)) P.out.minus ((up_of P.out).trans HU.out) P.out.val rfl)
      by_cases hr : inRange (-n) = true
      · have HR := Lib.hid hr
        clear hr
        go_wp2_with fail
        refine (withinR_yes _ _ HR.out).mono ?_
        rintro e w' ⟨rfl, rfl⟩
        go_wp2_with fail
        go_ret2
        exact readEnd_yes P.out.good HX.out HR.out
      · have HR := Lib.hid hr
        clear hr
        go_wp2_with fail
        refine (withinR_no _ _ HR.out).mono ?_
        rintro e w' ⟨rfl, rfl⟩
        go_wp2_with fail
        go_ret2
        exact readEnd_no P.out.good HX.out HR.out
end Go.Proofs.YtdpbpdikgcepbaaGreatDoor
namespace Go.Proofs.YtdpbpdikgcepbaaGreatDoor
open Go.RowKit Fix

set_option maxHeartbeats 3200000 in
theorem readR_lowp (s A B H R : ByteArray) (v : Int) (w : World) (P : Hid (Parts s A B H R false v)) (h0 : R = B.extract 4 B.size) (hR : 4 < B.size) (h5 : fiveUp R.data.toList = false) :
    Calls Tryz.prog 106 #[.string s] w (ReadEnd s.data.toList w) := by
  have a40 := P.out.a40
  have b40 := P.out.b40
  have h60 := P.out.h60
  have hR' : (4 : Int) < (B.size : Int) := by omega
  have hRs : R.size = B.size - 4 := by rw [h0]; simp
  have hR0 : 0 < R.size := by omega
  have h5' := h5
  rw [five_at R hR0] at h5'
  have e1 : R.toList.isEmpty = false := by rw [Lib.toList_data, List.isEmpty_eq_false_iff]; intro e; have := congrArg List.length e; rw [size_list, List.length_nil] at this; omega
  have HR0 := Lib.hid h0
  have e3 : ((R[0].toNat : Int)) < 53 := by
    have h6 : ¬ 53 ≤ R[0].toNat := by simpa using h5'
    omega
  have HU : Hid (moreR R.data.toList false = false) := Lib.hid (by unfold moreR; rw [h5]; rfl)
  clear h5 h5' h0 hRs
  go_enter Tryz.func106, Tryz.ntmps106
  go_wp2_with fail
  refine (P.out.form _).mono ?_
  rintro e w' ⟨rfl, rfl⟩
  go_wp2_with fail
  rw [← P.out.sum]
  go_loop [8, 10] (fun a i => ∃ (k : Nat) (n : Int), k ≤ H.size ∧ a = .int .i64 n ∧ i = .int .i64 k ∧ 0 ≤ n ∧ n ≤ 1099511627776 ∧ Hid (n = valM 0 (H.data.toList.take k))) (fun _ i => H.size - (intOf i).toNat)
  case atStart => exact ⟨0, 0, by omega, rfl, rfl, by omega, by omega, Lib.hid rfl⟩
  case round =>
    obtain ⟨k, n, hk, rfl, rfl, n0, n1, hn⟩ := hrel
    by_cases hlt : k < H.size
    · have hm : isDig H[k] = true := (List.all_eq_true.1 (by rw [P.out.head]; exact head_dig P.out.good : H.data.toList.all isDig = true)) H[k] (by rw [Array.mem_toList_iff]; exact Array.getElem_mem hlt)
      obtain ⟨d1, d2⟩ := isDig_yes hm
      have HNX := Lib.hid (valM_next H k hlt n hn.out)
      have hw2 : IntKind.u8.wrap ((H[k].toNat : Int) - 48) = (H[k].toNat : Int) - 48 := by
        rw [show (H[k].toNat : Int) - 48 = ((H[k].toNat - 48 : Nat) : Int) by omega]
        exact IntWalk.u8_in _ (by omega)
      have hw3 : IntKind.i64.wrap ((H[k].toNat : Int) - 48) = (H[k].toNat : Int) - 48 := IntWalk.i64_in _ (by omega)
      clear hm
      go_wp2
      go_round
      case rel => exact ⟨k + 1, _, by omega, rfl, by go_num, by omega, by omega, Lib.hid HNX.out⟩
      case measure => simp [intOf]; omega
    · have hnv : n = v := by rw [hn.out, List.take_of_length_le (by rw [size_list]; omega), P.out.head]; exact P.out.val
      subst hnv
      clear hn
      go_upto_region 13 with fail
      rw [← HR0.out]
      have HX := Lib.hid (refX_of (x := n) P.out.minus ((up_of P.out).trans HU.out) P.out.val rfl)
      by_cases hr : inRange n = true
      · have HR := Lib.hid hr
        clear hr
        go_wp2_with fail
        refine (withinR_yes _ _ HR.out).mono ?_
        rintro e w' ⟨rfl, rfl⟩
        go_wp2_with fail
        go_ret2
        exact readEnd_yes P.out.good HX.out HR.out
      · have HR := Lib.hid hr
        clear hr
        go_wp2_with fail
        refine (withinR_no _ _ HR.out).mono ?_
        rintro e w' ⟨rfl, rfl⟩
        go_wp2_with fail
        go_ret2
        exact readEnd_no P.out.good HX.out HR.out

set_option maxHeartbeats 3200000 in
theorem readR_lowm (s A B H R : ByteArray) (v : Int) (w : World) (P : Hid (Parts s A B H R true v)) (h0 : R = B.extract 4 B.size) (hR : 4 < B.size) (h5 : fiveUp R.data.toList = false) :
    Calls Tryz.prog 106 #[.string s] w (ReadEnd s.data.toList w) := by
  have a40 := P.out.a40
  have b40 := P.out.b40
  have h60 := P.out.h60
  have hR' : (4 : Int) < (B.size : Int) := by omega
  have hRs : R.size = B.size - 4 := by rw [h0]; simp
  have hR0 : 0 < R.size := by omega
  have h5' := h5
  rw [five_at R hR0] at h5'
  have e1 : R.toList.isEmpty = false := by rw [Lib.toList_data, List.isEmpty_eq_false_iff]; intro e; have := congrArg List.length e; rw [size_list, List.length_nil] at this; omega
  have HR0 := Lib.hid h0
  have e3 : ((R[0].toNat : Int)) < 53 := by
    have h6 : ¬ 53 ≤ R[0].toNat := by simpa using h5'
    omega
  have HU : Hid (moreR R.data.toList true = false) := Lib.hid (by unfold moreR; rw [h5]; rfl)
  clear h5 h5' h0 hRs
  go_enter Tryz.func106, Tryz.ntmps106
  go_wp2_with fail
  refine (P.out.form _).mono ?_
  rintro e w' ⟨rfl, rfl⟩
  go_wp2_with fail
  rw [← P.out.sum]
  go_loop [8, 10] (fun a i => ∃ (k : Nat) (n : Int), k ≤ H.size ∧ a = .int .i64 n ∧ i = .int .i64 k ∧ 0 ≤ n ∧ n ≤ 1099511627776 ∧ Hid (n = valM 0 (H.data.toList.take k))) (fun _ i => H.size - (intOf i).toNat)
  case atStart => exact ⟨0, 0, by omega, rfl, rfl, by omega, by omega, Lib.hid rfl⟩
  case round =>
    obtain ⟨k, n, hk, rfl, rfl, n0, n1, hn⟩ := hrel
    by_cases hlt : k < H.size
    · have hm : isDig H[k] = true := (List.all_eq_true.1 (by rw [P.out.head]; exact head_dig P.out.good : H.data.toList.all isDig = true)) H[k] (by rw [Array.mem_toList_iff]; exact Array.getElem_mem hlt)
      obtain ⟨d1, d2⟩ := isDig_yes hm
      have HNX := Lib.hid (valM_next H k hlt n hn.out)
      have hw2 : IntKind.u8.wrap ((H[k].toNat : Int) - 48) = (H[k].toNat : Int) - 48 := by
        rw [show (H[k].toNat : Int) - 48 = ((H[k].toNat - 48 : Nat) : Int) by omega]
        exact IntWalk.u8_in _ (by omega)
      have hw3 : IntKind.i64.wrap ((H[k].toNat : Int) - 48) = (H[k].toNat : Int) - 48 := IntWalk.i64_in _ (by omega)
      clear hm
      go_wp2
      go_round
      case rel => exact ⟨k + 1, _, by omega, rfl, by go_num, by omega, by omega, Lib.hid HNX.out⟩
      case measure => simp [intOf]; omega
    · have hnv : n = v := by rw [hn.out, List.take_of_length_le (by rw [size_list]; omega), P.out.head]; exact P.out.val
      subst hnv
      clear hn
      go_upto_region 13 with fail
      rw [← HR0.out]
      have HX := Lib.hid (refX_of (x := (-n)) P.out.minus ((up_of P.out).trans HU.out) P.out.val rfl)
      by_cases hr : inRange (-n) = true
      · have HR := Lib.hid hr
        clear hr
        go_wp2_with fail
        refine (withinR_yes _ _ HR.out).mono ?_
        rintro e w' ⟨rfl, rfl⟩
        go_wp2_with fail
        go_ret2
        exact readEnd_yes P.out.good HX.out HR.out
      · have HR := Lib.hid hr
        clear hr
        go_wp2_with fail
        refine (withinR_no _ _ HR.out).mono ?_
        rintro e w' ⟨rfl, rfl⟩
        go_wp2_with fail
        go_ret2
        exact readEnd_no P.out.good HX.out HR.out

set_option maxHeartbeats 3200000 in
theorem readR_highp (s A B H R : ByteArray) (v : Int) (w : World) (P : Hid (Parts s A B H R false v)) (h0 : R = B.extract 4 B.size) (hR : 4 < B.size) (h5 : fiveUp R.data.toList = true) :
    Calls Tryz.prog 106 #[.string s] w (ReadEnd s.data.toList w) := by
  have a40 := P.out.a40
  have b40 := P.out.b40
  have h60 := P.out.h60
  have hR' : (4 : Int) < (B.size : Int) := by omega
  have hRs : R.size = B.size - 4 := by rw [h0]; simp
  have hR0 : 0 < R.size := by omega
  have h5' := h5
  rw [five_at R hR0] at h5'
  have e1 : R.toList.isEmpty = false := by rw [Lib.toList_data, List.isEmpty_eq_false_iff]; intro e; have := congrArg List.length e; rw [size_list, List.length_nil] at this; omega
  have HR0 := Lib.hid h0
  have e3 : (53 : Int) ≤ (R[0].toNat : Int) := by
    have h6 : 53 ≤ R[0].toNat := by simpa using h5'
    omega
  have HU : Hid (moreR R.data.toList false = true) := Lib.hid (by unfold moreR; rw [h5]; rfl)
  clear h5 h5' h0 hRs
  go_enter Tryz.func106, Tryz.ntmps106
  go_wp2_with fail
  refine (P.out.form _).mono ?_
  rintro e w' ⟨rfl, rfl⟩
  go_wp2_with fail
  rw [← P.out.sum]
  go_loop [8, 10] (fun a i => ∃ (k : Nat) (n : Int), k ≤ H.size ∧ a = .int .i64 n ∧ i = .int .i64 k ∧ 0 ≤ n ∧ n ≤ 1099511627776 ∧ Hid (n = valM 0 (H.data.toList.take k))) (fun _ i => H.size - (intOf i).toNat)
  case atStart => exact ⟨0, 0, by omega, rfl, rfl, by omega, by omega, Lib.hid rfl⟩
  case round =>
    obtain ⟨k, n, hk, rfl, rfl, n0, n1, hn⟩ := hrel
    by_cases hlt : k < H.size
    · have hm : isDig H[k] = true := (List.all_eq_true.1 (by rw [P.out.head]; exact head_dig P.out.good : H.data.toList.all isDig = true)) H[k] (by rw [Array.mem_toList_iff]; exact Array.getElem_mem hlt)
      obtain ⟨d1, d2⟩ := isDig_yes hm
      have HNX := Lib.hid (valM_next H k hlt n hn.out)
      have hw2 : IntKind.u8.wrap ((H[k].toNat : Int) - 48) = (H[k].toNat : Int) - 48 := by
        rw [show (H[k].toNat : Int) - 48 = ((H[k].toNat - 48 : Nat) : Int) by omega]
        exact IntWalk.u8_in _ (by omega)
      have hw3 : IntKind.i64.wrap ((H[k].toNat : Int) - 48) = (H[k].toNat : Int) - 48 := IntWalk.i64_in _ (by omega)
      clear hm
      go_wp2
      go_round
      case rel => exact ⟨k + 1, _, by omega, rfl, by go_num, by omega, by omega, Lib.hid HNX.out⟩
      case measure => simp [intOf]; omega
    · have hnv : n = v := by rw [hn.out, List.take_of_length_le (by rw [size_list]; omega), P.out.head]; exact P.out.val
      subst hnv
      clear hn
      go_upto_region 13 with fail
      rw [← HR0.out]
      have HX := Lib.hid (refX_of (x := (n + 1)) P.out.minus ((up_of P.out).trans HU.out) P.out.val rfl)
      by_cases hr : inRange (n + 1) = true
      · have HR := Lib.hid hr
        clear hr
        go_wp2_with fail
        refine (withinR_yes _ _ HR.out).mono ?_
        rintro e w' ⟨rfl, rfl⟩
        go_wp2_with fail
        go_ret2
        exact readEnd_yes P.out.good HX.out HR.out
      · have HR := Lib.hid hr
        clear hr
        go_wp2_with fail
        refine (withinR_no _ _ HR.out).mono ?_
        rintro e w' ⟨rfl, rfl⟩
        go_wp2_with fail
        go_ret2
        exact readEnd_no P.out.good HX.out HR.out

set_option maxHeartbeats 3200000 in
theorem readR_highm (s A B H R : ByteArray) (v : Int) (w : World) (P : Hid (Parts s A B H R true v)) (h0 : R = B.extract 4 B.size) (hR : 4 < B.size) (h5 : fiveUp R.data.toList = true) :
    Calls Tryz.prog 106 #[.string s] w (ReadEnd s.data.toList w) := by
  have a40 := P.out.a40
  have b40 := P.out.b40
  have h60 := P.out.h60
  have hR' : (4 : Int) < (B.size : Int) := by omega
  have hRs : R.size = B.size - 4 := by rw [h0]; simp
  have hR0 : 0 < R.size := by omega
  have h5' := h5
  rw [five_at R hR0] at h5'
  have e1 : R.toList.isEmpty = false := by rw [Lib.toList_data, List.isEmpty_eq_false_iff]; intro e; have := congrArg List.length e; rw [size_list, List.length_nil] at this; omega
  have HR0 := Lib.hid h0
  have e3 : (53 : Int) ≤ (R[0].toNat : Int) := by
    have h6 : 53 ≤ R[0].toNat := by simpa using h5'
    omega
  have HU0 : Hid (moreR R.data.toList true = someUp R.data.toList) := Lib.hid (by unfold moreR; rw [h5]; rfl)
  have HS0 := Lib.hid (someK_one R hR0)
  have hRl : R.size ≤ 40 := by omega
  clear h5 h5' h0 hRs
  go_enter Tryz.func106, Tryz.ntmps106
  go_wp2_with fail
  refine (P.out.form _).mono ?_
  rintro e w' ⟨rfl, rfl⟩
  go_wp2_with fail
  rw [← P.out.sum]
  go_loop [8, 10] (fun a i => ∃ (k : Nat) (n : Int), k ≤ H.size ∧ a = .int .i64 n ∧ i = .int .i64 k ∧ 0 ≤ n ∧ n ≤ 1099511627776 ∧ Hid (n = valM 0 (H.data.toList.take k))) (fun _ i => H.size - (intOf i).toNat)
  case atStart => exact ⟨0, 0, by omega, rfl, rfl, by omega, by omega, Lib.hid rfl⟩
  case round =>
    obtain ⟨k, n, hk, rfl, rfl, n0, n1, hn⟩ := hrel
    by_cases hlt : k < H.size
    · have hm : isDig H[k] = true := (List.all_eq_true.1 (by rw [P.out.head]; exact head_dig P.out.good : H.data.toList.all isDig = true)) H[k] (by rw [Array.mem_toList_iff]; exact Array.getElem_mem hlt)
      obtain ⟨d1, d2⟩ := isDig_yes hm
      have HNX := Lib.hid (valM_next H k hlt n hn.out)
      have hw2 : IntKind.u8.wrap ((H[k].toNat : Int) - 48) = (H[k].toNat : Int) - 48 := by
        rw [show (H[k].toNat : Int) - 48 = ((H[k].toNat - 48 : Nat) : Int) by omega]
        exact IntWalk.u8_in _ (by omega)
      have hw3 : IntKind.i64.wrap ((H[k].toNat : Int) - 48) = (H[k].toNat : Int) - 48 := IntWalk.i64_in _ (by omega)
      clear hm
      go_wp2
      go_round
      case rel => exact ⟨k + 1, _, by omega, rfl, by go_num, by omega, by omega, Lib.hid HNX.out⟩
      case measure => simp [intOf]; omega
    · have hnv : n = v := by rw [hn.out, List.take_of_length_le (by rw [size_list]; omega), P.out.head]; exact P.out.val
      subst hnv
      clear hn
      go_upto_region 13 with fail
      rw [← HR0.out]
      go_wp2_with fail
      go_loop [13, 14] (fun b i => ∃ (k : Nat) (q : Bool), 1 ≤ k ∧ k ≤ R.size ∧ b = .bool q ∧ i = .int .i64 k ∧ Hid (q = someK R.data.toList k)) (fun _ i => R.size - (intOf i).toNat)
      case atStart => exact ⟨1, _, by omega, by omega, rfl, rfl, Lib.hid (by rw [HS0.out]; exact decide_eq_decide.2 (by omega))⟩
      case round =>
        obtain ⟨j, q, hj1, hj2, rfl, rfl, hq⟩ := hrel
        by_cases hjl : j < R.size
        · have HQ := Lib.hid (someK_next R j hjl hj1)
          cases q
          · by_cases hb : 48 < R[j].toNat
            · have hb2 : (48 : Int) < (R[j].toNat : Int) := by omega
              have HQ2 : Hid (true = someK R.data.toList (j + 1)) := Lib.hid (by rw [HQ.out, decide_eq_true hb, Bool.or_true])
              clear hb
              go_wp2
              go_round
              case rel => exact ⟨j + 1, true, by omega, by omega, rfl, by go_num, HQ2⟩
              case measure => simp [intOf]; omega
            · have hb2 : ¬ (48 : Int) < (R[j].toNat : Int) := by omega
              have HQ2 : Hid (false = someK R.data.toList (j + 1)) := Lib.hid (by rw [HQ.out, decide_eq_false hb, ← hq.out]; rfl)
              clear hb
              go_wp2
              go_round
              case rel => exact ⟨j + 1, false, by omega, by omega, rfl, by go_num, HQ2⟩
              case measure => simp [intOf]; omega
          · have HQ2 : Hid (true = someK R.data.toList (j + 1)) := Lib.hid (by rw [HQ.out, ← hq.out]; rfl)
            go_wp2
            go_round
            case rel => exact ⟨j + 1, true, by omega, by omega, rfl, by go_num, HQ2⟩
            case measure => simp [intOf]; omega
        · have hqq : q = someUp R.data.toList := by rw [hq.out]; unfold someK; rw [List.take_of_length_le (by rw [size_list]; omega)]
          have HQQ := Lib.hid hqq
          clear hqq hq
          cases q
          · have HU : Hid (moreR R.data.toList true = false) := Lib.hid (HU0.out.trans HQQ.out.symm)
            have HX := Lib.hid (refX_of (x := (-n)) P.out.minus ((up_of P.out).trans HU.out) P.out.val rfl)
            by_cases hr : inRange (-n) = true
            · have HR := Lib.hid hr
              clear hr
              go_wp2_with fail
              refine (withinR_yes _ _ HR.out).mono ?_
              rintro e w' ⟨rfl, rfl⟩
              go_wp2_with fail
              go_ret2
              exact readEnd_yes P.out.good HX.out HR.out
            · have HR := Lib.hid hr
              clear hr
              go_wp2_with fail
              refine (withinR_no _ _ HR.out).mono ?_
              rintro e w' ⟨rfl, rfl⟩
              go_wp2_with fail
              go_ret2
              exact readEnd_no P.out.good HX.out HR.out
          · have HU : Hid (moreR R.data.toList true = true) := Lib.hid (HU0.out.trans HQQ.out.symm)
            have HX := Lib.hid (refX_of (x := (-(n + 1))) P.out.minus ((up_of P.out).trans HU.out) P.out.val rfl)
            by_cases hr : inRange (-(n + 1)) = true
            · have HR := Lib.hid hr
              clear hr
              go_wp2_with fail
              refine (withinR_yes _ _ HR.out).mono ?_
              rintro e w' ⟨rfl, rfl⟩
              go_wp2_with fail
              go_ret2
              exact readEnd_yes P.out.good HX.out HR.out
            · have HR := Lib.hid hr
              clear hr
              go_wp2_with fail
              refine (withinR_no _ _ HR.out).mono ?_
              rintro e w' ⟨rfl, rfl⟩
              go_wp2_with fail
              go_ret2
              exact readEnd_no P.out.good HX.out HR.out
end Go.Proofs.YtdpbpdikgcepbaaGreatDoor
namespace Go.Proofs.YtdpbpdikgcepbaaGreatDoor
open Go.RowKit Fix

theorem form_yes (s A B : ByteArray) (m : Bool) (hg : goodR s.data.toList = true) (hA : A.data.toList = befL s.data.toList) (hB : B.data.toList = aftL s.data.toList) (hm : minusL s.data.toList = m) (w : World) :
    Calls Tryz.prog 122 #[.string s] w fun e w' => e = .returned (.tuple #[.string A, .string B, .bool m, .bool true]) ∧ w = w' :=
  (form_any s w).mono fun _ _ ⟨⟨A', B', m', ok, he, hok, hall⟩, hw⟩ => ⟨by
    obtain rfl : ok = true := by rw [← hok]; exact hg
    obtain ⟨h1, h2, h3⟩ := hall rfl
    rw [he, bytes_eq (h1.trans hA.symm), bytes_eq (h2.trans hB.symm), h3, hm], hw⟩
def FormNo (w : World) (e : Ending) (w' : World) : Prop := (∃ (A B : ByteArray) (m : Bool), e = .returned (.tuple #[.string A, .string B, .bool m, .bool false])) ∧ w = w'
theorem form_no (s : ByteArray) (hg : goodR s.data.toList = false) (w : World) : Calls Tryz.prog 122 #[.string s] w (FormNo w) :=
  (form_any s w).mono fun _ _ ⟨⟨A', B', m', ok, he, hok, _⟩, hw⟩ => ⟨⟨A', B', m', by
    obtain rfl : ok = false := by rw [← hok]; exact hg
    exact he⟩, hw⟩

theorem readR_bad (s : ByteArray) (w : World) (hg : goodR s.data.toList = false) :
    Calls Tryz.prog 106 #[.string s] w (ReadEnd s.data.toList w) := by
  have HG := Lib.hid hg
  clear hg
  go_enter Tryz.func106, Tryz.ntmps106
  go_wp2_with fail
  refine (form_no _ HG.out _).mono ?_
  rintro e w' ⟨⟨A, B, m, rfl⟩, rfl⟩
  go_wp2_with fail
  go_ret2
  refine ⟨?_, rfl⟩
  unfold readN readE
  rw [if_neg (by rw [HG.out]; decide), if_neg (by rw [HG.out]; decide)]
  rfl

theorem readR_any (s : ByteArray) (w : World) :
    Calls Tryz.prog 106 #[.string s] w (ReadEnd s.data.toList w) := by
  by_cases hg : goodR s.data.toList = true
  · obtain ⟨A, hA⟩ := mk_bytes (befL s.data.toList)
    obtain ⟨B, hB⟩ := mk_bytes (aftL s.data.toList)
    obtain ⟨g1, g2, g3, g4⟩ := goodR_parts hg
    have hl1 := split_len (bodyL s.data.toList)
    have hl2 := body_len s.data.toList
    have hAs : A.size ≤ 40 := by rw [← size_list, hA]; unfold befL; omega
    have hBs : B.size ≤ 40 := by rw [← size_list, hB]; unfold aftL; omega
    have mk : ∀ R : ByteArray, R.data.toList = (aftL s.data.toList).drop 4 → Hid (Parts s A B (A ++ (B ++ ⟨#[48, 48, 48, 48]⟩).extract 0 4) R (minusL s.data.toList) (valM 0 (headL s.data.toList))) := fun R hR => Lib.hid
      { good := hg
        head := by
          simp only [ByteArray.data_append, Array.toList_append]
          rw [extract_take]
          simp only [ByteArray.data_append, Array.toList_append]
          rw [hA, hB]
          rfl
        sum := rfl
        rest := hR
        minus := rfl
        val := rfl
        form := form_yes s A B _ hg hA hB rfl
        a40 := hAs
        b40 := hBs
        h60 := by simp; omega }
    by_cases h4 : B.size ≤ 4
    · have hR : (⟨#[]⟩ : ByteArray).data.toList = (aftL s.data.toList).drop 4 := by
        rw [← hB, List.drop_of_length_le (by rw [size_list]; omega)]
      have P := mk _ hR
      by_cases hm : minusL s.data.toList = true
      · rw [hm] at P
        exact readR_shortm _ _ _ _ _ _ _ P rfl h4
      · rw [Bool.eq_false_iff.2 hm] at P
        exact readR_shortp _ _ _ _ _ _ _ P rfl h4
    · have hR : (B.extract 4 B.size).data.toList = (aftL s.data.toList).drop 4 := by
        rw [Lib.extract_data, List.take_of_length_le (by rw [List.length_drop, size_list]; omega), hB]
      have P := mk _ hR
      by_cases h5 : fiveUp (B.extract 4 B.size).data.toList = true
      · by_cases hm : minusL s.data.toList = true
        · rw [hm] at P
          exact readR_highm _ _ _ _ _ _ _ P rfl (by omega) h5
        · rw [Bool.eq_false_iff.2 hm] at P
          exact readR_highp _ _ _ _ _ _ _ P rfl (by omega) h5
      · by_cases hm : minusL s.data.toList = true
        · rw [hm] at P
          exact readR_lowm _ _ _ _ _ _ _ P rfl (by omega) (Bool.eq_false_iff.2 h5)
        · rw [Bool.eq_false_iff.2 hm] at P
          exact readR_lowp _ _ _ _ _ _ _ P rfl (by omega) (Bool.eq_false_iff.2 h5)
  · exact readR_bad s w (Bool.eq_false_iff.2 hg)
end Go.Proofs.YtdpbpdikgcepbaaGreatDoor
