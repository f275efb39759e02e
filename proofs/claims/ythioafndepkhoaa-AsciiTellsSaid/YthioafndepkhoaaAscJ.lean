/-
  ascii's equal and literal.
-/
import Derived.Test.YthioafndepkhoaaAscI
namespace Go.Proofs.Ythioafndepkhoaa
open Go.RowKit Oct Asc Go.Shelf

theorem takeWhile_stop {p : UInt8 → Bool} : ∀ (l : List UInt8) (k : Nat), k ≤ l.length → (∀ j (hj : j < l.length), j < k → p l[j] = true) → (∀ h : k < l.length, p l[k] = false) → (l.takeWhile p).length = k
  | [], k, h, _, _ => by simp at h; simp [h]
  | c :: t, 0, _, _, h2 => by
    have := h2 (by simp)
    rw [List.takeWhile_cons]
    simp only [List.getElem_cons_zero] at this
    rw [if_neg (by rw [this]; decide)]
    rfl
  | c :: t, k + 1, h, h1, h2 => by
    have hc : p c = true := h1 0 (by simp) (by omega)
    rw [List.takeWhile_cons, if_pos hc, List.length_cons]
    rw [takeWhile_stop t k (by simpa using h) (fun j hj hk => by have := h1 (j + 1) (by simpa using hj) (by omega); simpa using this) (fun hk => by have := h2 (by simpa using hk); simpa using this)]
theorem takeWhile_ge {p : UInt8 → Bool} : ∀ (l : List UInt8) (k : Nat), k ≤ l.length → (∀ j (hj : j < l.length), j < k → p l[j] = true) → k ≤ (l.takeWhile p).length
  | _, 0, _, _ => Nat.zero_le _
  | [], k + 1, h, _ => by simp at h
  | c :: t, k + 1, h, h1 => by
    have hc : p c = true := h1 0 (by simp) (by omega)
    rw [List.takeWhile_cons, if_pos hc, List.length_cons]
    have := takeWhile_ge t k (by simpa using h) (fun j hj hk => by have := h1 (j + 1) (by simpa using hj) (by omega); simpa using this)
    omega
theorem eqN_at {l : List UInt8} {n : Nat} (h1 : 1 ≤ n) (hn : n ≤ min l.length 128) (h0 : 0 < l.length) (hall : ∀ j (hj : j < l.length), j < n → l[j] = l[0]) (hstop : n = min l.length 128 ∨ ∃ h : n < l.length, l[n] ≠ l[0]) : eqN l = n := by
  obtain ⟨c, t, rfl⟩ := List.exists_cons_of_ne_nil (List.length_pos_iff.1 h0)
  obtain ⟨k, rfl⟩ : ∃ k, n = k + 1 := ⟨n - 1, by omega⟩
  have hl : (c :: t).length = t.length + 1 := rfl
  have hp : ∀ j (hj : j < t.length), j < k → (t[j] == c) = true := fun j hj hk => by
    have := hall (j + 1) (by simpa using hj) (by omega)
    simpa using this
  show min 128 (1 + (t.takeWhile (· == c)).length) = k + 1
  rcases hstop with h | ⟨h, hne⟩
  · have := takeWhile_ge (p := (· == c)) t k (by omega) hp
    have h3 := (List.takeWhile_prefix (l := t) (· == c)).length_le
    omega
  · rw [takeWhile_stop (p := (· == c)) t k (by omega) hp (fun hk => by
      have : t[k] ≠ c := by simpa using hne
      simpa using this)]
    omega

theorem equal_stop {s : ByteArray} {n : Nat} (h1 : 1 ≤ n) (hs : 0 < s.size) (hn : n ≤ min s.size 128) (hall : ∀ j (hj : j < s.size), j < n → s[j] = s[0]) (hstop : n = min s.size 128 ∨ ∃ h : n < s.size, s[n] ≠ s[0]) : eqN s.data.toList = n := by
  have hl : s.data.toList.length = s.size := by simp
  refine eqN_at h1 (by rw [hl]; exact hn) (by rw [hl]; exact hs) (fun j hj hk => hall j (by rw [← hl]; exact hj) hk) ?_
  rcases hstop with h | ⟨h, h2⟩
  · exact .inl (by rw [hl]; exact h)
  · exact .inr ⟨by rw [hl]; exact h, h2⟩
set_option maxRecDepth 100000 in
set_option maxHeartbeats 4000000 in
theorem equal_any (s : ByteArray) (w : World) (hs : 0 < s.size) (hs2 : s.size ≤ 4000000000) :
    Calls Try.prog 30 #[.string s] w fun e w' => e = .returned (.int .i64 (eqN s.data.toList : Nat)) ∧ ∃ k, w' = w.drewN k := by
  obtain ⟨M, hM⟩ : ∃ M, min s.size 128 = M := ⟨_, rfl⟩
  have hMi : min (s.size : Int) 128 = (M : Int) := by omega
  have hM1 : 1 ≤ M := by omega
  have hMs : M ≤ s.size := by omega
  have hM2 : M ≤ 128 := by omega
  have HM := Lib.hid hM
  clear hM
  go_enter Try.func30, Try.ntmps30
  go_wp2_with fail
  go_loopw [3] (fun i wr => ∃ k d : Nat, 1 ≤ k ∧ k ≤ M ∧ i = .int .i64 (k : Int) ∧ Hid (∀ j (hj : j < s.size), j < k → s[j] = s[0]) ∧ wr = w.drewN d) (fun i _ => M - (intOf i).toNat)
  case atStart => exact ⟨1, 0, by omega, hM1, rfl, Lib.hid (fun j hj hk => by obtain rfl : j = 0 := (by omega); rfl), rfl⟩
  case round =>
    obtain ⟨k, d, h1, hk, rfl, HJ, rfl⟩ := hrel
    by_cases hlt : k < M
    · have i0 : (0 : Int) ≤ (k : Int) := by omega
      have i1 : (k : Int) < (M : Int) := by omega
      have i2 : (k : Int) < (s.size : Int) := by omega
      have i3 : k < s.size := by omega
      have i4 : (0 : Int) < (s.size : Int) := by omega
      by_cases he : s[k] = s[0]
      · have he' : ((s[k].toNat : Int) == (s[0].toNat : Int)) = true := by rw [he]; simp
        have HE := Lib.hid he
        clear he
        go_wp2_with fail
        go_quiet (fail)
        go_wp2_with fail
        go_roundw
        case rel => exact ⟨k + 1, d + nq, by omega, by omega, by go_num, Lib.hid (fun j hj hk => by
          by_cases e : j = k
          · subst e; exact HE.out
          · exact HJ.out j hj (by omega)), rfl⟩
        case measure => simp [intOf]; omega
      · have he' : ((s[k].toNat : Int) == (s[0].toNat : Int)) = false := by
          refine beq_eq_false_iff_ne.2 fun e => he ?_
          apply UInt8.toNat_inj.1
          omega
        have HE := Lib.hid (equal_stop h1 hs (by have := HM.out; omega) HJ.out (.inr ⟨i3, he⟩))
        clear he
        go_wp2_with fail
        go_quiet (fail)
        go_wp2_with fail
        go_ret
        exact ⟨by rw [HE.out]; rfl, d + nq, World.drewN_drewN w d nq⟩
    · have HE := Lib.hid (equal_stop h1 hs (by have := HM.out; omega) HJ.out (.inl (by have := HM.out; omega)))
      have i1 : ¬ (k : Int) < (M : Int) := by omega
      go_wp2_with fail
      go_quiet (fail)
      go_wp2_with fail
      go_ret
      exact ⟨by rw [HE.out]; rfl, d + nq, World.drewN_drewN w d nq⟩

theorem litT_at {k : Nat} : ∀ {l : List UInt8} {n : Nat}, n ≤ k → n ≤ l.length → (∀ j, j < n → eqN (l.drop j) < 3) → (n = min l.length k ∨ 3 ≤ eqN (l.drop n)) → litT k l = n := by
  induction k with
  | zero => intro l n h1 _ _ _; rw [show n = 0 by omega]; rfl
  | succ k ih =>
    intro l n h1 h2 hall hstop
    cases l with
    | nil => simp at h2; rw [h2]; rfl
    | cons c t =>
      cases n with
      | zero =>
        rcases hstop with h | h
        · simp only [List.length_cons] at h; omega
        · unfold litT; rw [if_pos (by rw [List.drop_zero] at h; exact h)]
      | succ n =>
        have h0 := hall 0 (by omega)
        unfold litT
        rw [if_neg (by rw [List.drop_zero] at h0; omega), ih (n := n) (by omega) (by simpa using h2) (fun j hj => hall (j + 1) (by omega)) (by
          rcases hstop with h | h
          · left; simp only [List.length_cons] at h; omega
          · right; exact h)]
        omega
theorem ext_drop (s : ByteArray) (k : Nat) : (s.extract k s.size).data.toList = s.data.toList.drop k := (ext_many rfl k).2

set_option maxRecDepth 100000 in
set_option maxHeartbeats 4000000 in
theorem literal_any (s : ByteArray) (w : World) (hs : 0 < s.size) (hs2 : s.size ≤ 4000000000) (h3 : eqN s.data.toList < 3) :
    Calls Try.prog 31 #[.string s] w fun e w' => e = .returned (.int .i64 (litT 128 s.data.toList : Nat)) ∧ ∃ k, w' = w.drewN k := by
  obtain ⟨M, hM⟩ : ∃ M, min s.size 128 = M := ⟨_, rfl⟩
  have hMi : min (s.size : Int) 128 = (M : Int) := by omega
  have hM1 : 1 ≤ M := by omega
  have hMs : M ≤ s.size := by omega
  have hM2 : M ≤ 128 := by omega
  have HM := Lib.hid hM
  have H3 := Lib.hid h3
  clear hM h3
  go_enter Try.func31, Try.ntmps31
  go_wp2_with fail
  go_loopw [3] (fun i wr => ∃ k d : Nat, 1 ≤ k ∧ k ≤ M ∧ i = .int .i64 (k : Int) ∧ Hid (∀ j, j < k → eqN (s.data.toList.drop j) < 3) ∧ wr = w.drewN d) (fun i _ => M - (intOf i).toNat)
  case atStart => exact ⟨1, 0, by omega, hM1, rfl, Lib.hid (fun j hj => by obtain rfl : j = 0 := (by omega); exact H3.out), rfl⟩
  case round =>
    obtain ⟨k, d, h1, hk, rfl, HJ, rfl⟩ := hrel
    by_cases hlt : k < M
    · have i0 : (0 : Int) ≤ (k : Int) := by omega
      have i1 : (k : Int) < (M : Int) := by omega
      have i2 : (k : Int) ≤ (s.size : Int) := by omega
      obtain ⟨X, hX⟩ : ∃ X, s.extract k s.size = X := ⟨_, rfl⟩
      have hXl : X.data.toList = s.data.toList.drop k := by rw [← hX]; exact ext_drop s k
      have hXs : X.size = s.size - k := by rw [← hX, ByteArray.size_extract]; omega
      obtain ⟨q, hq⟩ : ∃ q, eqN X.data.toList = q := ⟨_, rfl⟩
      have HC := Lib.hid (fun W : World => equal_any X W (by omega) (by omega))
      rw [hq] at HC
      have HQ := Lib.hid (show eqN (s.data.toList.drop k) = q by rw [← hXl]; exact hq)
      clear hXl hXs hq
      by_cases h3 : q < 3
      · have h3' : (q : Int) < 3 := by omega
        go_wp2_with fail
        refine (HC.out _).mono ?_
        rintro e w1 ⟨rfl, d2, rfl⟩
        go_wp2_with fail
        go_roundw
        case rel => exact ⟨k + 1, d + d2, by omega, by omega, by go_num, Lib.hid (fun j hj => by
          by_cases e : j = k
          · subst e; rw [HQ.out]; exact h3
          · exact HJ.out j (by omega)), rfl⟩
        case measure => simp [intOf]; omega
      · have h3' : ¬ (q : Int) < 3 := by omega
        have HE := Lib.hid (litT_at (k := 128) (l := s.data.toList) (n := k) (by omega) (by have e : s.data.toList.length = s.size := (by simp); omega) HJ.out (.inr (by rw [HQ.out]; omega)))
        go_wp2_with fail
        refine (HC.out _).mono ?_
        rintro e w1 ⟨rfl, d2, rfl⟩
        go_wp2_with fail
        go_ret
        exact ⟨by rw [HE.out]; rfl, d + d2, rfl⟩
    · have HE := Lib.hid (litT_at (k := 128) (l := s.data.toList) (n := k) (by omega) (by have e : s.data.toList.length = s.size := (by simp); omega) HJ.out (.inl (by have e : s.data.toList.length = s.size := (by simp); have := HM.out; omega)))
      have i1 : ¬ (k : Int) < (M : Int) := by omega
      go_wp2_with fail
      go_ret
      exact ⟨by rw [HE.out]; rfl, d, rfl⟩
end Go.Proofs.Ythioafndepkhoaa
