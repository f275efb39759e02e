/-
  Lemmas and walks, joined: FixZ, FixRa, FixRb.
-/
import Derived.Test.YtdpbpdikgcepbaaGreatDoorHz10
import Derived.Test.YtdpbpdikgcepbaaGreatDoorHz05
namespace Go.Proofs.YtdpbpdikgcepbaaGreatDoor
open Go.RowKit Fix

theorem again_same {P : Program} {f : FuncId} {args : Array Value} {w : World} {a n : Nat} {v : Value} (c : ∀ W : World, Calls P f args W fun e w' => e = .returned v ∧ w' = W) :
    Calls P f args (w.drewN (a + n)) fun e w'' => e = .returned v ∧ ∃ m, w'' = w.drewN (a + m) :=
  (c _).mono fun _ _ ⟨he, hm⟩ => ⟨he, n, hm⟩

theorem count_c (s : ByteArray) (l : List UInt8) (hl : s.data.toList = l) (w : World) (hs : s.size ≤ 4000000000) (hd : l.all isDig = true) :
    Calls Tryz.prog 95 #[.string s] w fun e w' => e = countEnd l ∧ w' = w := by
  subst hl
  exact count_any s w hs hd
theorem countEnd_ok {l : List UInt8} {v : Int} (h : valL 0 l = v) (h2 : v ≤ 1073741824) : countEnd l = .returned (.int .i64 v) := by
  unfold countEnd
  rw [h, if_pos h2]
theorem countEnd_no {l : List UInt8} (h2 : 1073741824 < valL 0 l) : countEnd l = gaveUp 2 := by
  unfold countEnd
  rw [if_neg (by omega)]

/-- count gives up. -/
theorem read_work_big (p q r : Addr) (B D : ByteArray) (l : List UInt8) (w : World) (hp : w.cell? p = some (.string B)) (hq : w.cell? q = some (.string D))
    (hD : 4 ≤ D.size) (hB : B.size ≤ 100) (hl : (B ++ D.extract 0 4).data.toList = l) (hdig : l.all isDig = true) (hv : 1073741824 < valL 0 l) :
    Calls Tryz.prog 94 #[.pointer (some p), .pointer (some q), .pointer (some r)] w fun e w' => e = gaveUp 2 ∧ ∃ k, w' = w.drewN k := by
  have HC : Hid (∀ W : World, Calls Tryz.prog 95 #[.string (B ++ D.extract 0 4)] W fun e w' => e = gaveUp 2 ∧ w' = W) :=
    Lib.hid fun W => by rw [← countEnd_no hv]; exact count_c _ l hl W (by simp; omega) hdig
  have hD' : (4 : Int) ≤ (D.size : Int) := by omega
  have hsz : ¬ 9223372036854775807 < B.size + 4 := by omega
  clear hl hdig hv
  go_enter Tryz.func94, Tryz.ntmps94
  go_wp2_with fail
  go_region_dies
  all_goals
    refine (HC.out _).mono ?_
    rintro e w' ⟨rfl, rfl⟩
    exact ⟨rfl, rfl, 1, rfl⟩

/-- count answers v, and up answers u. -/
theorem read_work (p q r : Addr) (B D : ByteArray) (neg u : Bool) (l : List UInt8) (v x : Int) (w : World) (hp : w.cell? p = some (.string B)) (hq : w.cell? q = some (.string D)) (hr : w.cell? r = some (.bool neg))
    (hD : 4 ≤ D.size) (hB : B.size ≤ 100) (hl : (B ++ D.extract 0 4).data.toList = l) (hdig : l.all isDig = true) (hv : valL 0 l = v) (hv1 : v ≤ 1073741824)
    (hu : ∀ W : World, Calls Tryz.prog 96 #[.string (D.extract 4 D.size), .bool neg] W fun e w' => e = .returned (.bool u) ∧ w' = W)
    (hx : x = if neg then -(if u then v + 1 else v) else (if u then v + 1 else v)) :
    Calls Tryz.prog 94 #[.pointer (some p), .pointer (some q), .pointer (some r)] w fun e w' => e = (if inRange x then .returned (.int .i64 x) else gaveUp 2) ∧ ∃ k, w' = w.drewN k := by
  have HC : Hid (∀ W : World, Calls Tryz.prog 95 #[.string (B ++ D.extract 0 4)] W fun e w' => e = .returned (.int .i64 v) ∧ w' = W) :=
    Lib.hid fun W => by rw [← countEnd_ok hv hv1]; exact count_c _ l hl W (by simp; omega) hdig
  have HU := Lib.hid hu
  have hv0 : 0 ≤ v := by rw [← hv]; exact valL_ge 0 l (by decide) hdig
  have hD' : (4 : Int) ≤ (D.size : Int) := by omega
  clear hl hdig hv hu
  by_cases hin : inRange x = true
  · rw [if_pos hin]
    have HI := Lib.hid (inRange_yes hin)
    clear hin
    cases neg <;> cases u
    all_goals
      simp only [if_true, if_false, Bool.false_eq_true] at hx
      subst hx
      go_enter Tryz.func94, Tryz.ntmps94
      go_wp2_with fail
      go_quiet ((go_at_call 95; exact Calls.quiet_of_same (HC.out _)))
      go_wp2_with fail
      go_quiet ((go_at_call 96; exact again_same HU.out))
      go_wp2_with fail
      refine (sized_ok _ _ HI.out.1 HI.out.2).mono ?_
      rintro e w' ⟨rfl, rfl⟩
      go_wp2_with fail
      go_ret
      exact ⟨rfl, _, rfl⟩
  · rw [if_neg hin]
    have HI := Lib.hid (inRange_no hin)
    clear hin
    cases neg <;> cases u
    all_goals
      simp only [if_true, if_false, Bool.false_eq_true] at hx
      subst hx
      go_enter Tryz.func94, Tryz.ntmps94
      go_wp2_with fail
      go_quiet ((go_at_call 95; exact Calls.quiet_of_same (HC.out _)))
      go_wp2_with fail
      go_quiet ((go_at_call 96; exact again_same HU.out))
      go_wp2_with fail
      refine (sized_no _ _ HI.out).mono ?_
      rintro e w' ⟨rfl, rfl⟩
      exact ⟨rfl, rfl, _, rfl⟩
end Go.Proofs.YtdpbpdikgcepbaaGreatDoor
namespace Go.Proofs.YtdpbpdikgcepbaaGreatDoor
open Go.RowKit Fix

theorem prefix_c (s : ByteArray) (c : UInt8) (b : Bool) (hb : Lib.hasPrefix s.data.toList [c] = b) (w : World) :
    Calls Tryz.prog 34 #[.string s, .string ⟨#[c]⟩] w fun e w' => e = .returned (.bool b) ∧ w = w' :=
  (Tryz.strings_HasPrefix s ⟨#[c]⟩ w).mono fun _ _ ⟨h1, h2⟩ => ⟨by rw [h1, ← hb], h2.symm⟩
theorem cut_c (s B C : ByteArray) (f : Bool) (w : World) (hm : MaxLenAt w) (hs : s.size ≤ 1000000) (h : splitP s.data.toList = (B.data.toList, C.data.toList, f)) :
    Calls Tryz.prog 91 #[.string s, .string ⟨#[46]⟩] w fun e w' => e = .returned (.tuple #[.string B, .string C, .bool f]) ∧ ∃ n, w' = w.drewN n := by
  obtain ⟨m, hm⟩ := hm
  refine (Tryz.strings_Cut s ⟨#[46]⟩ m w (by omega) hm).mono fun _ _ ⟨h1, h2⟩ => ⟨?_, h2⟩
  rw [h1]
  show Ending.returned (.tuple #[.string ⟨(Lib.cut s.data.toList [46]).1.toArray⟩, .string ⟨(Lib.cut s.data.toList [46]).2.1.toArray⟩, .bool (Lib.cut s.data.toList [46]).2.2]) = _
  rw [cut_split, h]
theorem decimal_c (s : ByteArray) (b : Bool) (w : World) (hs : s.size ≤ 4000000000) (h : decB s = b) :
    Calls Tryz.prog 92 #[.string s] w fun e w' => e = .returned (.bool b) ∧ w = w' :=
  (decimal_any s w hs).mono fun _ _ ⟨h1, h2⟩ => ⟨by rw [h1, h], h2.symm⟩

/-- The three ways of a sign. -/
def SignA (s : ByteArray) : Prop := Lib.hasPrefix s.data.toList [45] = true ∧ 1 ≤ s.size ∧ (s.extract 1 s.size).data.toList = bodyL s.data.toList ∧ minusL s.data.toList = true
def SignB (s : ByteArray) : Prop := Lib.hasPrefix s.data.toList [45] = false ∧ Lib.hasPrefix s.data.toList [43] = true ∧ 1 ≤ s.size ∧ (s.extract 1 s.size).data.toList = bodyL s.data.toList ∧ minusL s.data.toList = false
def SignC (s : ByteArray) : Prop := Lib.hasPrefix s.data.toList [45] = false ∧ Lib.hasPrefix s.data.toList [43] = false ∧ s.data.toList = bodyL s.data.toList ∧ minusL s.data.toList = false
theorem sign_of (s : ByteArray) : SignA s ∨ SignB s ∨ SignC s := by
  unfold SignA SignB SignC
  rw [drop1, ← size_list]
  cases s.data.toList with
  | nil => exact Or.inr (Or.inr ⟨rfl, rfl, rfl, rfl⟩)
  | cons c t =>
    have e1 : ∀ d : UInt8, Lib.hasPrefix (c :: t) [d] = (d == c) := fun d => by unfold Lib.hasPrefix; simp [List.isPrefixOf]
    rw [e1, e1]
    unfold bodyL minusL
    by_cases h1 : c = 45
    · subst h1; exact Or.inl ⟨rfl, by simp, rfl, rfl⟩
    · have g1 : ((45 : UInt8) == c) = false := by simpa using Ne.symm h1
      have g2 : (c == 45) = false := by simpa using h1
      by_cases h2 : c = 43
      · subst h2; exact Or.inr (Or.inl ⟨rfl, rfl, by simp, rfl, rfl⟩)
      · have g3 : ((43 : UInt8) == c) = false := by simpa using Ne.symm h2
        refine Or.inr (Or.inr ⟨g1, g3, ?_, g2⟩)
        simp [h1, h2]
theorem split_len (l : List UInt8) : (splitP l).1.length + (splitP l).2.1.length ≤ l.length := by
  induction l with
  | nil => exact Nat.le_refl _
  | cons c l ih =>
    rw [splitP_cons]
    split
    · simp
    · simp; omega
theorem body_len (l : List UInt8) : (bodyL l).length ≤ l.length := by
  unfold bodyL
  split
  · exact Nat.le_refl _
  · split
    · simp
    · split <;> simp
theorem enter_read (caps : Array Value) (W : World) : (callFunc 94 caps).run Tryz.prog W = .ok (.enter 94 caps) W := by
  first | kernel_rfl | rfl

theorem cell_two {w : World} {p : Addr} {v : Value} (h : w.cell? p = some v) (o o' : Obj) : ((w.alloc o).alloc o').cell? p = some v :=
  ((((Below.refl w.heap.size w).alloc (Nat.le_refl _) o).alloc (by simp) o').cell (World.block_lt_of_cell? w _ h)).trans h
theorem extract_take (D : ByteArray) (k : Nat) : (D.extract 0 k).data.toList = D.data.toList.take k := by
  rw [Lib.extract_data]
  simp

/-- The attempt: what count, up and sized make of the digits. -/
theorem read_try (l : List UInt8) (p q r : Addr) (B C : ByteArray) (neg : Bool) (W : World) (hg : goodR l = true) (hp : W.cell? p = some (.string B)) (hq : W.cell? q = some (.string (C ++ ⟨#[48, 48, 48, 48]⟩))) (hr : W.cell? r = some (.bool neg))
    (hB : B.data.toList = befL l) (hC : C.data.toList = aftL l) (hn : minusL l = neg) :
    Calls Tryz.prog 93 #[.func (.func 94) #[] #[.pointer (some p), .pointer (some q), .pointer (some r)]] W fun e w' => e = .returned (.tuple #[.int .i64 (readN l), .int .i64 (readE l)]) ∧ Below W.heap.size W w' := by
  have hl1 := split_len (bodyL l)
  have hl2 := body_len l
  have hl3 := (goodR_parts hg).1
  have hBs : B.size ≤ 100 := by rw [← size_list, hB]; unfold befL; omega
  have hCs : C.size ≤ 100 := by rw [← size_list, hC]; unfold aftL; omega
  have hDl : (C ++ (⟨#[48, 48, 48, 48]⟩ : ByteArray)).data.toList = aftL l ++ zeros4 := by simp [hC, zeros4]
  have hD4 : 4 ≤ (C ++ (⟨#[48, 48, 48, 48]⟩ : ByteArray)).size := by rw [ByteArray.size_append]; show 4 ≤ C.size + 4; omega
  have hD5 : (C ++ (⟨#[48, 48, 48, 48]⟩ : ByteArray)).size ≤ 200 := by rw [ByteArray.size_append]; show C.size + 4 ≤ 200; omega
  generalize C ++ (⟨#[48, 48, 48, 48]⟩ : ByteArray) = D at *
  have hh : (B ++ D.extract 0 4).data.toList = headL l := by
    simp only [ByteArray.data_append, Array.toList_append]
    rw [extract_take, hB, hDl]
    rfl
  have hrest : (D.extract 4 D.size).data.toList = restL l := by
    rw [Lib.extract_data, List.take_of_length_le (by rw [List.length_drop, size_list]; omega), hDl]
    rfl
  have hN : goodR l = true → readN l = if readBig l then 0 else readX l := fun h => by unfold readN; rw [h]; rfl
  have hE : goodR l = true → readE l = if readBig l then 2 else 0 := fun h => by unfold readE; rw [h]; rfl
  rw [hN hg, hE hg]
  have hdig := head_dig hg
  by_cases hv : 1073741824 < valL 0 (headL l)
  · rw [show readBig l = true by unfold readBig; rw [decide_eq_true hv]; rfl]
    exact attempt_no 94 _ 2 _ (enter_read _) (read_work_big p q r B D (headL l) _ (cell_two hp _ _) (cell_two hq _ _) hD4 hBs hh hdig hv)
  · have hu : ∀ W : World, Calls Tryz.prog 96 #[.string (D.extract 4 D.size), .bool neg] W fun e w' => e = .returned (.bool (upL l)) ∧ w' = W := by
      intro W
      unfold upL
      rw [hn, ← hrest]
      cases neg
      · rw [if_neg (by decide), ← Lib.toList_data]
        exact up_plus _ _
      · rw [if_pos rfl]
        exact up_minus _ _ (by simp; omega)
    have hw := fun W' h1 h2 h3 => read_work p q r B D neg (upL l) (headL l) (valL 0 (headL l)) (readX l) W' h1 h2 h3 hD4 hBs hh hdig rfl (by omega) hu (by unfold readX; rw [hn])
    by_cases hin : inRange (readX l) = true
    · rw [show readBig l = false by unfold readBig; rw [decide_eq_false hv, hin]; rfl]
      refine attempt_ok 94 _ (readX l) _ (enter_read _) ?_
      have := hw _ (cell_two hp (.cells #[.int .i64 0] 2) (.cells #[.int .i64 0] 23)) (cell_two hq _ _) (cell_two hr _ _)
      rw [if_pos hin] at this
      exact this
    · rw [show readBig l = true by unfold readBig; rw [decide_eq_false hv, Bool.eq_false_iff.2 hin]; rfl]
      refine attempt_no 94 _ 2 _ (enter_read _) ?_
      have := hw _ (cell_two hp (.cells #[.int .i64 0] 2) (.cells #[.int .i64 0] 23)) (cell_two hq _ _) (cell_two hr _ _)
      rw [if_neg hin] at this
      exact this
set_option maxHeartbeats 1600000 in
theorem read_good (s : ByteArray) (w : World) (hg : goodR s.data.toList = true) (hm : MaxLenAt w) :
    Calls Tryz.prog 70 #[.string s] w fun e w' => e = .returned (.tuple #[.int .i64 (readN s.data.toList), .int .i64 (readE s.data.toList)]) ∧ Below w.heap.size w w' := by
  have hmf : ∀ (fn : Fn) (first cap : Array Value) (w : World), (Instr.makeFunc fn first cap).run Tryz.prog w = .ok (.func fn first cap) w := fun _ _ _ _ => rfl
  obtain ⟨B, hB⟩ := mk_bytes (befL s.data.toList)
  obtain ⟨C, hC⟩ := mk_bytes (aftL s.data.toList)
  obtain ⟨g1, g2, g3, g4⟩ := goodR_parts hg
  have hl1 := split_len (bodyL s.data.toList)
  have hl2 := body_len s.data.toList
  have hs40 : s.size ≤ 40 := by rw [← size_list]; exact g1
  have hBs : B.size ≤ 40 := by rw [← size_list, hB]; unfold befL; omega
  have hCs : C.size ≤ 40 := by rw [← size_list, hC]; unfold aftL; omega
  have hdB : decB B = true := by unfold decB; rw [hB]; exact g2
  have hdC : decB C = true := by unfold decB; rw [hC]; exact g3
  have hE : (B ++ C).toList.isEmpty = false := by rw [Lib.toList_data]; simp only [ByteArray.data_append, Array.toList_append]; rw [hB, hC]; exact g4
  have hsplit : splitP (bodyL s.data.toList) = (B.data.toList, C.data.toList, (splitP (bodyL s.data.toList)).2.2) := by rw [hB, hC]; rfl
  have HF := Lib.hid (And.intro hB (And.intro hC (And.intro hdB (And.intro hdC hsplit))))
  have HM := Lib.hid hm
  have hs40' : ¬ (40 : Int) < (s.size : Int) := by omega
  clear hB hC g1 g2 g3 g4 hl1 hl2 hdB hdC hsplit hm
  rcases sign_of s with hs | hs | hs
  · have HS := Lib.hid hs
    have hs1 : (1 : Int) ≤ (s.size : Int) := by have := hs.2.1; omega
    clear hs
    go_enter Tryz.func70, Tryz.ntmps70
    go_wp2_with fail
    refine (prefix_c _ _ _ HS.out.1 _).mono ?_
    rintro e w' ⟨rfl, rfl⟩
    go_wp2_with fail
    refine (cut_c _ B C _ _ (HM.out.alloc _) (by simp; omega) (by rw [HS.out.2.2.1]; exact HF.out.2.2.2.2)).mono ?_
    rintro e w' ⟨rfl, nd, rfl⟩
    go_wp2_with fail
    refine (decimal_c _ _ _ (by omega) HF.out.2.2.1).mono ?_
    rintro e w' ⟨rfl, rfl⟩
    go_wp2_with fail
    refine (decimal_c _ _ _ (by omega) HF.out.2.2.2.1).mono ?_
    rintro e w' ⟨rfl, rfl⟩
    go_wp2_with fail
    refine (read_try s.data.toList ⟨w.heap.size + 1, 0, none⟩ ⟨w.heap.size + 1 + 1, 0, none⟩ ⟨w.heap.size, 0, none⟩ B C true _ hg (by simp [go_sem]) (by simp [go_sem]) (by simp [go_sem]) HF.out.1 HF.out.2.1 HS.out.2.2.2).mono ?_
    rintro e w2 ⟨rfl, hb2⟩
    go_wp2_with fail
    go_ret2
    exact ⟨rfl, (((below_drewN ((Below.refl _ _).alloc (Nat.le_refl _) _) _).alloc (by simp) _).alloc (by simp; omega) _).trans (hb2.mono (by simp; omega))⟩
  · have HS := Lib.hid hs
    have hs1 : (1 : Int) ≤ (s.size : Int) := by have := hs.2.2.1; omega
    clear hs
    go_enter Tryz.func70, Tryz.ntmps70
    go_wp2_with fail
    refine (prefix_c _ _ _ HS.out.1 _).mono ?_
    rintro e w' ⟨rfl, rfl⟩
    go_wp2_with fail
    refine (prefix_c _ _ _ HS.out.2.1 _).mono ?_
    rintro e w' ⟨rfl, rfl⟩
    go_wp2_with fail
    refine (cut_c _ B C _ _ (HM.out.alloc _) (by simp; omega) (by rw [HS.out.2.2.2.1]; exact HF.out.2.2.2.2)).mono ?_
    rintro e w' ⟨rfl, nd, rfl⟩
    go_wp2_with fail
    refine (decimal_c _ _ _ (by omega) HF.out.2.2.1).mono ?_
    rintro e w' ⟨rfl, rfl⟩
    go_wp2_with fail
    refine (decimal_c _ _ _ (by omega) HF.out.2.2.2.1).mono ?_
    rintro e w' ⟨rfl, rfl⟩
    go_wp2_with fail
    refine (read_try s.data.toList ⟨w.heap.size + 1, 0, none⟩ ⟨w.heap.size + 1 + 1, 0, none⟩ ⟨w.heap.size, 0, none⟩ B C false _ hg (by simp [go_sem]) (by simp [go_sem]) (by simp [go_sem]) HF.out.1 HF.out.2.1 HS.out.2.2.2.2).mono ?_
    rintro e w2 ⟨rfl, hb2⟩
    go_wp2_with fail
    go_ret2
    exact ⟨rfl, (((below_drewN ((Below.refl _ _).alloc (Nat.le_refl _) _) _).alloc (by simp) _).alloc (by simp; omega) _).trans (hb2.mono (by simp; omega))⟩
  · have HS := Lib.hid hs
    clear hs
    go_enter Tryz.func70, Tryz.ntmps70
    go_wp2_with fail
    refine (prefix_c _ _ _ HS.out.1 _).mono ?_
    rintro e w' ⟨rfl, rfl⟩
    go_wp2_with fail
    refine (prefix_c _ _ _ HS.out.2.1 _).mono ?_
    rintro e w' ⟨rfl, rfl⟩
    go_wp2_with fail
    refine (cut_c _ B C _ _ (HM.out.alloc _) (by omega) (by rw [HS.out.2.2.1]; exact HF.out.2.2.2.2)).mono ?_
    rintro e w' ⟨rfl, nd, rfl⟩
    go_wp2_with fail
    refine (decimal_c _ _ _ (by omega) HF.out.2.2.1).mono ?_
    rintro e w' ⟨rfl, rfl⟩
    go_wp2_with fail
    refine (decimal_c _ _ _ (by omega) HF.out.2.2.2.1).mono ?_
    rintro e w' ⟨rfl, rfl⟩
    go_wp2_with fail
    refine (read_try s.data.toList ⟨w.heap.size + 1, 0, none⟩ ⟨w.heap.size + 1 + 1, 0, none⟩ ⟨w.heap.size, 0, none⟩ B C false _ hg (by simp [go_sem]) (by simp [go_sem]) (by simp [go_sem]) HF.out.1 HF.out.2.1 HS.out.2.2.2).mono ?_
    rintro e w2 ⟨rfl, hb2⟩
    go_wp2_with fail
    go_ret2
    exact ⟨rfl, (((below_drewN ((Below.refl _ _).alloc (Nat.le_refl _) _) _).alloc (by simp) _).alloc (by simp; omega) _).trans (hb2.mono (by simp; omega))⟩
end Go.Proofs.YtdpbpdikgcepbaaGreatDoor
namespace Go.Proofs.YtdpbpdikgcepbaaGreatDoor
open Go.RowKit Fix

def BadEnd (w : World) (e : Ending) (w' : World) : Prop := e = .returned (.tuple #[.int .i64 0, .int .i64 3]) ∧ Below w.heap.size w w'
theorem bad_three {w : World} {a b : Obj} {n : Nat} {o : Obj} : Below w.heap.size w ((((w.alloc o).drewN n).alloc a).alloc b) :=
  ((below_drewN ((Below.refl _ _).alloc (Nat.le_refl _) _) _).alloc (by simp) _).alloc (by simp; omega) _

set_option maxHeartbeats 1600000 in
theorem read_long (s : ByteArray) (w : World) (hz : s.size ≤ 100000) (hm : MaxLenAt w) (hk : 40 < s.size) :
    Calls Tryz.prog 70 #[.string s] w (BadEnd w) := by
  obtain ⟨B, hB⟩ := mk_bytes (befL s.data.toList)
  obtain ⟨C, hC⟩ := mk_bytes (aftL s.data.toList)
  have hl1 := split_len (bodyL s.data.toList)
  have hl2 := body_len s.data.toList
  rw [size_list] at hl2
  have hBs : B.size ≤ 100000 := by rw [← size_list, hB]; unfold befL; omega
  have hCs : C.size ≤ 100000 := by rw [← size_list, hC]; unfold aftL; omega
  have hsplit : splitP (bodyL s.data.toList) = (B.data.toList, C.data.toList, (splitP (bodyL s.data.toList)).2.2) := by rw [hB, hC]; rfl
  have HF := Lib.hid hsplit
  have HM := Lib.hid hm
  have hk' : (40 : Int) < (s.size : Int) := by omega
  clear hB hC hl1 hl2 hsplit hm
  rcases sign_of s with hs | hs | hs
  · have HS := Lib.hid hs
    have hs1 : (1 : Int) ≤ (s.size : Int) := by have := hs.2.1; omega
    clear hs
    go_enter Tryz.func70, Tryz.ntmps70
    go_wp2_with fail
    refine (prefix_c _ _ _ HS.out.1 _).mono ?_
    rintro e w' ⟨rfl, rfl⟩
    go_wp2_with fail
    refine (cut_c _ B C _ _ (HM.out.alloc _) (by simp; omega) (by rw [HS.out.2.2.1]; exact HF.out)).mono ?_
    rintro e w' ⟨rfl, nd, rfl⟩
    go_wp2_with fail
    go_ret2
    exact ⟨rfl, bad_three⟩
  · have HS := Lib.hid hs
    have hs1 : (1 : Int) ≤ (s.size : Int) := by have := hs.2.2.1; omega
    clear hs
    go_enter Tryz.func70, Tryz.ntmps70
    go_wp2_with fail
    refine (prefix_c _ _ _ HS.out.1 _).mono ?_
    rintro e w' ⟨rfl, rfl⟩
    go_wp2_with fail
    refine (prefix_c _ _ _ HS.out.2.1 _).mono ?_
    rintro e w' ⟨rfl, rfl⟩
    go_wp2_with fail
    refine (cut_c _ B C _ _ (HM.out.alloc _) (by simp; omega) (by rw [HS.out.2.2.2.1]; exact HF.out)).mono ?_
    rintro e w' ⟨rfl, nd, rfl⟩
    go_wp2_with fail
    go_ret2
    exact ⟨rfl, bad_three⟩
  · have HS := Lib.hid hs
    clear hs
    go_enter Tryz.func70, Tryz.ntmps70
    go_wp2_with fail
    refine (prefix_c _ _ _ HS.out.1 _).mono ?_
    rintro e w' ⟨rfl, rfl⟩
    go_wp2_with fail
    refine (prefix_c _ _ _ HS.out.2.1 _).mono ?_
    rintro e w' ⟨rfl, rfl⟩
    go_wp2_with fail
    refine (cut_c _ B C _ _ (HM.out.alloc _) (by omega) (by rw [HS.out.2.2.1]; exact HF.out)).mono ?_
    rintro e w' ⟨rfl, nd, rfl⟩
    go_wp2_with fail
    go_ret2
    exact ⟨rfl, bad_three⟩

set_option maxHeartbeats 1600000 in
theorem read_empty (s : ByteArray) (w : World) (hz : s.size ≤ 100000) (hm : MaxLenAt w) (hs40 : s.size ≤ 40) (hk : (befL s.data.toList ++ aftL s.data.toList).isEmpty = true) :
    Calls Tryz.prog 70 #[.string s] w (BadEnd w) := by
  obtain ⟨B, hB⟩ := mk_bytes (befL s.data.toList)
  obtain ⟨C, hC⟩ := mk_bytes (aftL s.data.toList)
  have hl1 := split_len (bodyL s.data.toList)
  have hl2 := body_len s.data.toList
  rw [size_list] at hl2
  have hBs : B.size ≤ 100000 := by rw [← size_list, hB]; unfold befL; omega
  have hCs : C.size ≤ 100000 := by rw [← size_list, hC]; unfold aftL; omega
  have hsplit : splitP (bodyL s.data.toList) = (B.data.toList, C.data.toList, (splitP (bodyL s.data.toList)).2.2) := by rw [hB, hC]; rfl
  have HF := Lib.hid hsplit
  have HM := Lib.hid hm
  have hs40' : ¬ (40 : Int) < (s.size : Int) := by omega
  have hE : (B ++ C).toList.isEmpty = true := by rw [Lib.toList_data]; simp only [ByteArray.data_append, Array.toList_append]; rw [hB, hC]; exact hk
  clear hB hC hl1 hl2 hsplit hm hk
  rcases sign_of s with hs | hs | hs
  · have HS := Lib.hid hs
    have hs1 : (1 : Int) ≤ (s.size : Int) := by have := hs.2.1; omega
    clear hs
    go_enter Tryz.func70, Tryz.ntmps70
    go_wp2_with fail
    refine (prefix_c _ _ _ HS.out.1 _).mono ?_
    rintro e w' ⟨rfl, rfl⟩
    go_wp2_with fail
    refine (cut_c _ B C _ _ (HM.out.alloc _) (by simp; omega) (by rw [HS.out.2.2.1]; exact HF.out)).mono ?_
    rintro e w' ⟨rfl, nd, rfl⟩
    go_wp2_with fail
    go_ret2
    exact ⟨rfl, bad_three⟩
  · have HS := Lib.hid hs
    have hs1 : (1 : Int) ≤ (s.size : Int) := by have := hs.2.2.1; omega
    clear hs
    go_enter Tryz.func70, Tryz.ntmps70
    go_wp2_with fail
    refine (prefix_c _ _ _ HS.out.1 _).mono ?_
    rintro e w' ⟨rfl, rfl⟩
    go_wp2_with fail
    refine (prefix_c _ _ _ HS.out.2.1 _).mono ?_
    rintro e w' ⟨rfl, rfl⟩
    go_wp2_with fail
    refine (cut_c _ B C _ _ (HM.out.alloc _) (by simp; omega) (by rw [HS.out.2.2.2.1]; exact HF.out)).mono ?_
    rintro e w' ⟨rfl, nd, rfl⟩
    go_wp2_with fail
    go_ret2
    exact ⟨rfl, bad_three⟩
  · have HS := Lib.hid hs
    clear hs
    go_enter Tryz.func70, Tryz.ntmps70
    go_wp2_with fail
    refine (prefix_c _ _ _ HS.out.1 _).mono ?_
    rintro e w' ⟨rfl, rfl⟩
    go_wp2_with fail
    refine (prefix_c _ _ _ HS.out.2.1 _).mono ?_
    rintro e w' ⟨rfl, rfl⟩
    go_wp2_with fail
    refine (cut_c _ B C _ _ (HM.out.alloc _) (by omega) (by rw [HS.out.2.2.1]; exact HF.out)).mono ?_
    rintro e w' ⟨rfl, nd, rfl⟩
    go_wp2_with fail
    go_ret2
    exact ⟨rfl, bad_three⟩

set_option maxHeartbeats 1600000 in
theorem read_bef (s : ByteArray) (w : World) (hz : s.size ≤ 100000) (hm : MaxLenAt w) (hs40 : s.size ≤ 40) (hk : (befL s.data.toList ++ aftL s.data.toList).isEmpty = false) (hk2 : (befL s.data.toList).all isDig = false) :
    Calls Tryz.prog 70 #[.string s] w (BadEnd w) := by
  obtain ⟨B, hB⟩ := mk_bytes (befL s.data.toList)
  obtain ⟨C, hC⟩ := mk_bytes (aftL s.data.toList)
  have hl1 := split_len (bodyL s.data.toList)
  have hl2 := body_len s.data.toList
  rw [size_list] at hl2
  have hBs : B.size ≤ 100000 := by rw [← size_list, hB]; unfold befL; omega
  have hCs : C.size ≤ 100000 := by rw [← size_list, hC]; unfold aftL; omega
  have hsplit : splitP (bodyL s.data.toList) = (B.data.toList, C.data.toList, (splitP (bodyL s.data.toList)).2.2) := by rw [hB, hC]; rfl
  have HF := Lib.hid hsplit
  have HM := Lib.hid hm
  have hs40' : ¬ (40 : Int) < (s.size : Int) := by omega
  have hE : (B ++ C).toList.isEmpty = false := by rw [Lib.toList_data]; simp only [ByteArray.data_append, Array.toList_append]; rw [hB, hC]; exact hk
  have hd1 : decB B = false := by unfold decB; rw [hB]; exact hk2
  have HD1 := Lib.hid hd1
  clear hB hC hl1 hl2 hsplit hm hk hk2 hd1
  rcases sign_of s with hs | hs | hs
  · have HS := Lib.hid hs
    have hs1 : (1 : Int) ≤ (s.size : Int) := by have := hs.2.1; omega
    clear hs
    go_enter Tryz.func70, Tryz.ntmps70
    go_wp2_with fail
    refine (prefix_c _ _ _ HS.out.1 _).mono ?_
    rintro e w' ⟨rfl, rfl⟩
    go_wp2_with fail
    refine (cut_c _ B C _ _ (HM.out.alloc _) (by simp; omega) (by rw [HS.out.2.2.1]; exact HF.out)).mono ?_
    rintro e w' ⟨rfl, nd, rfl⟩
    go_wp2_with fail
    refine (decimal_c _ _ _ (by omega) HD1.out).mono ?_
    rintro e w' ⟨rfl, rfl⟩
    go_wp2_with fail
    go_ret2
    exact ⟨rfl, bad_three⟩
  · have HS := Lib.hid hs
    have hs1 : (1 : Int) ≤ (s.size : Int) := by have := hs.2.2.1; omega
    clear hs
    go_enter Tryz.func70, Tryz.ntmps70
    go_wp2_with fail
    refine (prefix_c _ _ _ HS.out.1 _).mono ?_
    rintro e w' ⟨rfl, rfl⟩
    go_wp2_with fail
    refine (prefix_c _ _ _ HS.out.2.1 _).mono ?_
    rintro e w' ⟨rfl, rfl⟩
    go_wp2_with fail
    refine (cut_c _ B C _ _ (HM.out.alloc _) (by simp; omega) (by rw [HS.out.2.2.2.1]; exact HF.out)).mono ?_
    rintro e w' ⟨rfl, nd, rfl⟩
    go_wp2_with fail
    refine (decimal_c _ _ _ (by omega) HD1.out).mono ?_
    rintro e w' ⟨rfl, rfl⟩
    go_wp2_with fail
    go_ret2
    exact ⟨rfl, bad_three⟩
  · have HS := Lib.hid hs
    clear hs
    go_enter Tryz.func70, Tryz.ntmps70
    go_wp2_with fail
    refine (prefix_c _ _ _ HS.out.1 _).mono ?_
    rintro e w' ⟨rfl, rfl⟩
    go_wp2_with fail
    refine (prefix_c _ _ _ HS.out.2.1 _).mono ?_
    rintro e w' ⟨rfl, rfl⟩
    go_wp2_with fail
    refine (cut_c _ B C _ _ (HM.out.alloc _) (by omega) (by rw [HS.out.2.2.1]; exact HF.out)).mono ?_
    rintro e w' ⟨rfl, nd, rfl⟩
    go_wp2_with fail
    refine (decimal_c _ _ _ (by omega) HD1.out).mono ?_
    rintro e w' ⟨rfl, rfl⟩
    go_wp2_with fail
    go_ret2
    exact ⟨rfl, bad_three⟩

set_option maxHeartbeats 1600000 in
theorem read_aft (s : ByteArray) (w : World) (hz : s.size ≤ 100000) (hm : MaxLenAt w) (hs40 : s.size ≤ 40) (hk : (befL s.data.toList ++ aftL s.data.toList).isEmpty = false) (hk2 : (befL s.data.toList).all isDig = true) (hk3 : (aftL s.data.toList).all isDig = false) :
    Calls Tryz.prog 70 #[.string s] w (BadEnd w) := by
  obtain ⟨B, hB⟩ := mk_bytes (befL s.data.toList)
  obtain ⟨C, hC⟩ := mk_bytes (aftL s.data.toList)
  have hl1 := split_len (bodyL s.data.toList)
  have hl2 := body_len s.data.toList
  rw [size_list] at hl2
  have hBs : B.size ≤ 100000 := by rw [← size_list, hB]; unfold befL; omega
  have hCs : C.size ≤ 100000 := by rw [← size_list, hC]; unfold aftL; omega
  have hsplit : splitP (bodyL s.data.toList) = (B.data.toList, C.data.toList, (splitP (bodyL s.data.toList)).2.2) := by rw [hB, hC]; rfl
  have HF := Lib.hid hsplit
  have HM := Lib.hid hm
  have hs40' : ¬ (40 : Int) < (s.size : Int) := by omega
  have hE : (B ++ C).toList.isEmpty = false := by rw [Lib.toList_data]; simp only [ByteArray.data_append, Array.toList_append]; rw [hB, hC]; exact hk
  have hd1 : decB B = true := by unfold decB; rw [hB]; exact hk2
  have HD1 := Lib.hid hd1
  have hd2 : decB C = false := by unfold decB; rw [hC]; exact hk3
  have HD2 := Lib.hid hd2
  clear hB hC hl1 hl2 hsplit hm hk hk2 hd1 hk3 hd2
  rcases sign_of s with hs | hs | hs
  · have HS := Lib.hid hs
    have hs1 : (1 : Int) ≤ (s.size : Int) := by have := hs.2.1; omega
    clear hs
    go_enter Tryz.func70, Tryz.ntmps70
    go_wp2_with fail
    refine (prefix_c _ _ _ HS.out.1 _).mono ?_
    rintro e w' ⟨rfl, rfl⟩
    go_wp2_with fail
    refine (cut_c _ B C _ _ (HM.out.alloc _) (by simp; omega) (by rw [HS.out.2.2.1]; exact HF.out)).mono ?_
    rintro e w' ⟨rfl, nd, rfl⟩
    go_wp2_with fail
    refine (decimal_c _ _ _ (by omega) HD1.out).mono ?_
    rintro e w' ⟨rfl, rfl⟩
    go_wp2_with fail
    refine (decimal_c _ _ _ (by omega) HD2.out).mono ?_
    rintro e w' ⟨rfl, rfl⟩
    go_wp2_with fail
    go_ret2
    exact ⟨rfl, bad_three⟩
  · have HS := Lib.hid hs
    have hs1 : (1 : Int) ≤ (s.size : Int) := by have := hs.2.2.1; omega
    clear hs
    go_enter Tryz.func70, Tryz.ntmps70
    go_wp2_with fail
    refine (prefix_c _ _ _ HS.out.1 _).mono ?_
    rintro e w' ⟨rfl, rfl⟩
    go_wp2_with fail
    refine (prefix_c _ _ _ HS.out.2.1 _).mono ?_
    rintro e w' ⟨rfl, rfl⟩
    go_wp2_with fail
    refine (cut_c _ B C _ _ (HM.out.alloc _) (by simp; omega) (by rw [HS.out.2.2.2.1]; exact HF.out)).mono ?_
    rintro e w' ⟨rfl, nd, rfl⟩
    go_wp2_with fail
    refine (decimal_c _ _ _ (by omega) HD1.out).mono ?_
    rintro e w' ⟨rfl, rfl⟩
    go_wp2_with fail
    refine (decimal_c _ _ _ (by omega) HD2.out).mono ?_
    rintro e w' ⟨rfl, rfl⟩
    go_wp2_with fail
    go_ret2
    exact ⟨rfl, bad_three⟩
  · have HS := Lib.hid hs
    clear hs
    go_enter Tryz.func70, Tryz.ntmps70
    go_wp2_with fail
    refine (prefix_c _ _ _ HS.out.1 _).mono ?_
    rintro e w' ⟨rfl, rfl⟩
    go_wp2_with fail
    refine (prefix_c _ _ _ HS.out.2.1 _).mono ?_
    rintro e w' ⟨rfl, rfl⟩
    go_wp2_with fail
    refine (cut_c _ B C _ _ (HM.out.alloc _) (by omega) (by rw [HS.out.2.2.1]; exact HF.out)).mono ?_
    rintro e w' ⟨rfl, nd, rfl⟩
    go_wp2_with fail
    refine (decimal_c _ _ _ (by omega) HD1.out).mono ?_
    rintro e w' ⟨rfl, rfl⟩
    go_wp2_with fail
    refine (decimal_c _ _ _ (by omega) HD2.out).mono ?_
    rintro e w' ⟨rfl, rfl⟩
    go_wp2_with fail
    go_ret2
    exact ⟨rfl, bad_three⟩

theorem read_bad (s : ByteArray) (w : World) (hz : s.size ≤ 100000) (hm : MaxLenAt w) (hg : goodR s.data.toList = false) : Calls Tryz.prog 70 #[.string s] w (BadEnd w) := by
  by_cases h1 : 40 < s.size
  · exact read_long s w hz hm h1
  · by_cases h2 : (befL s.data.toList ++ aftL s.data.toList).isEmpty = true
    · exact read_empty s w hz hm (by omega) h2
    · have h2' := Bool.eq_false_iff.2 h2
      by_cases h3 : (befL s.data.toList).all isDig = true
      · by_cases h4 : (aftL s.data.toList).all isDig = true
        · unfold goodR at hg
          rw [h3, h4, h2', decide_eq_true (by rw [size_list]; omega)] at hg
          cases hg
        · exact read_aft s w hz hm (by omega) h2' h3 (Bool.eq_false_iff.2 h4)
      · exact read_bef s w hz hm (by omega) h2' (Bool.eq_false_iff.2 h3)

theorem read_any (s : ByteArray) (w : World) (hz : s.size ≤ 100000) (hm : MaxLenAt w) :
    Calls Tryz.prog 70 #[.string s] w fun e w' => e = .returned (.tuple #[.int .i64 (readN s.data.toList), .int .i64 (readE s.data.toList)]) ∧ Below w.heap.size w w' := by
  by_cases hg : goodR s.data.toList = true
  · exact read_good s w hg hm
  · refine (read_bad s w hz hm (Bool.eq_false_iff.2 hg)).mono fun _ _ ⟨h1, h2⟩ => ⟨?_, h2⟩
    unfold readN readE
    rw [if_neg hg, if_neg hg]
    exact h1
end Go.Proofs.YtdpbpdikgcepbaaGreatDoor
