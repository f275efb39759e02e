/-
  matrix, the document's: One, Move, Scale, within, Check.
-/
import Derived.Test.YthihmbicalacfaaMatD
import Derived.Test.YthihmbicalacfaaFixR
namespace Go.Proofs.Ythihmbicalacfaa
open Go.RowKit Fix Mat

set_option maxRecDepth 100000 in
theorem one42 (w : World) :
    Calls Try.prog 22 #[] w fun e w' => e = .returned (mxV oneM) ∧ Below w.heap.size w w' := by
  unfold mxV oneM
  obtain ⟨N, hN⟩ : ∃ N, w.heap.size = N := ⟨_, rfl⟩
  have HB := Lib.hid ((Below.refl _ w).alloc (Nat.le_refl _) (.cells #[.int .i64 0, .int .i64 0, .int .i64 0, .int .i64 0, .int .i64 0, .int .i64 0] 23))
  have HC := Lib.hid (mx_new w 23 (.int .i64 0) (.int .i64 0) (.int .i64 0) (.int .i64 0) (.int .i64 0) (.int .i64 0))
  rw [hN] at HB HC ⊢
  go_enter Try.func22, Try.ntmps22
  go_upto_region 1 with fail
  obtain ⟨w1, hw1⟩ : ∃ w1, w.alloc (.cells #[.int .i64 0, .int .i64 0, .int .i64 0, .int .i64 0, .int .i64 0, .int .i64 0] 23) = w1 := ⟨_, rfl⟩
  rw [hw1] at HB HC ⊢
  obtain ⟨⟨c0, c1, c2, c3, c4, c5⟩, ⟨f0, f1, f2, f3, f4, f5⟩⟩ := six_cells HC.out
  clear hw1 hN HC
  go_wp2_with fail
  exact bodyPost_ret (v := .agg #[.int .i64 10000, .int .i64 0, .int .i64 0, .int .i64 10000, .int .i64 0, .int .i64 0]) (by simp [results, Try.results22, go_sem, c0, c1, c2, c3, c4, c5]) rfl ⟨rfl, below_six HB.out (Nat.le_refl _) _ _ _ _ _ _⟩
set_option maxRecDepth 100000 in
theorem move42 (x y : Int) (w : World) :
    Calls Try.prog 26 #[.int .i64 x, .int .i64 y] w fun e w' => e = .returned (mxV ⟨10000, 0, 0, 10000, x, y⟩) ∧ Below w.heap.size w w' := by
  unfold mxV
  obtain ⟨N, hN⟩ : ∃ N, w.heap.size = N := ⟨_, rfl⟩
  have HB := Lib.hid ((Below.refl _ w).alloc (Nat.le_refl _) (.cells #[.int .i64 0, .int .i64 0, .int .i64 0, .int .i64 0, .int .i64 0, .int .i64 0] 23))
  have HC := Lib.hid (mx_new w 23 (.int .i64 0) (.int .i64 0) (.int .i64 0) (.int .i64 0) (.int .i64 0) (.int .i64 0))
  rw [hN] at HB HC ⊢
  go_enter Try.func26, Try.ntmps26
  go_upto_region 1 with fail
  obtain ⟨w1, hw1⟩ : ∃ w1, w.alloc (.cells #[.int .i64 0, .int .i64 0, .int .i64 0, .int .i64 0, .int .i64 0, .int .i64 0] 23) = w1 := ⟨_, rfl⟩
  rw [hw1] at HB HC ⊢
  obtain ⟨⟨c0, c1, c2, c3, c4, c5⟩, ⟨f0, f1, f2, f3, f4, f5⟩⟩ := six_cells HC.out
  clear hw1 hN HC
  go_wp2_with fail
  exact bodyPost_ret (v := .agg #[.int .i64 10000, .int .i64 0, .int .i64 0, .int .i64 10000, .int .i64 x, .int .i64 y]) (by simp [results, Try.results26, go_sem, c0, c1, c2, c3, c4, c5]) rfl ⟨rfl, below_six HB.out (Nat.le_refl _) _ _ _ _ _ _⟩
set_option maxRecDepth 100000 in
theorem scale42 (x y : Int) (w : World) :
    Calls Try.prog 28 #[.int .i64 x, .int .i64 y] w fun e w' => e = .returned (mxV ⟨x, 0, 0, y, 0, 0⟩) ∧ Below w.heap.size w w' := by
  unfold mxV
  obtain ⟨N, hN⟩ : ∃ N, w.heap.size = N := ⟨_, rfl⟩
  have HB := Lib.hid ((Below.refl _ w).alloc (Nat.le_refl _) (.cells #[.int .i64 0, .int .i64 0, .int .i64 0, .int .i64 0, .int .i64 0, .int .i64 0] 23))
  have HC := Lib.hid (mx_new w 23 (.int .i64 0) (.int .i64 0) (.int .i64 0) (.int .i64 0) (.int .i64 0) (.int .i64 0))
  rw [hN] at HB HC ⊢
  go_enter Try.func28, Try.ntmps28
  go_upto_region 1 with fail
  obtain ⟨w1, hw1⟩ : ∃ w1, w.alloc (.cells #[.int .i64 0, .int .i64 0, .int .i64 0, .int .i64 0, .int .i64 0, .int .i64 0] 23) = w1 := ⟨_, rfl⟩
  rw [hw1] at HB HC ⊢
  obtain ⟨⟨c0, c1, c2, c3, c4, c5⟩, ⟨f0, f1, f2, f3, f4, f5⟩⟩ := six_cells HC.out
  clear hw1 hN HC
  go_wp2_with fail
  exact bodyPost_ret (v := .agg #[.int .i64 x, .int .i64 0, .int .i64 0, .int .i64 y, .int .i64 0, .int .i64 0]) (by simp [results, Try.results28, go_sem, c0, c1, c2, c3, c4, c5]) rfl ⟨rfl, below_six HB.out (Nat.le_refl _) _ _ _ _ _ _⟩

theorem all_not_in (xs : List Int) (k : Nat) (hk : k < xs.length) (h : ¬ inRange xs[k] = true) : xs.all inRange = false := by
  refine Bool.eq_false_iff.2 fun ha => h ?_
  exact (List.all_eq_true.1 ha) _ (List.getElem_mem hk)
theorem all_in (xs : List Int) (h : ∀ j (hj : j < xs.length), inRange xs[j] = true) : xs.all inRange = true := by
  refine List.all_eq_true.2 fun x hx => ?_
  obtain ⟨j, hj, rfl⟩ := List.mem_iff_getElem.1 hx
  exact h j hj
set_option maxRecDepth 100000 in
set_option maxHeartbeats 4000000 in
theorem within42 (a : Option Addr) (cap : Nat) (xs : List Int) (w : World) (hlen : xs.length ≤ 8) (hc : ReadsInts w a xs) :
    Calls Try.prog 40 #[.slice a xs.length cap] w fun e w' => e = .returned (.bool (xs.all inRange)) ∧ ∃ k, w' = w.drewN k := by
  have HC := Lib.hid hc
  clear hc
  go_enter Try.func40, Try.ntmps40
  go_wp2
  go_loopw [7] (fun i wr => ∃ k : Nat, k ≤ xs.length ∧ i = .int .i64 (k : Int) ∧ Hid (∀ j (h : j < xs.length), j < k → inRange xs[j] = true) ∧ ∃ d, wr = w.drewN d) (fun i _ => xs.length - (intOf i).toNat)
  case atStart => exact ⟨0, by omega, rfl, Lib.hid (fun j h h2 => by omega), 0, rfl⟩
  case round =>
    obtain ⟨k, hk, rfl, hinv, hwr⟩ := hrel
    have HC' : Hid (ReadsInts wr a xs) := Lib.hid (by obtain ⟨d, rfl⟩ := hwr; intro j hj; obtain ⟨b, off, ha, hv⟩ := HC.out j hj; exact ⟨b, off, ha, by simpa using hv⟩)
    have HW := Lib.hid hwr
    clear HC hwr
    by_cases hlt : k < xs.length
    · obtain ⟨b, off, rfl, hcell⟩ := HC'.out k hlt
      by_cases hr : inRange xs[k] = true
      · have hr2 := inRange_yes hr
        have h1 : ¬ xs[k] < -1073741824 := by omega
        have h2 : ¬ 1073741824 < xs[k] := by omega
        have HV := Lib.hid hr
        clear hr hr2
        go_wp2_with fail
        go_roundw
        case rel =>
          refine ⟨k + 1, by omega, by go_num, Lib.hid (fun j hj hjk => ?_), ?_⟩
          · by_cases h : j < k
            · exact hinv.out j hj h
            · obtain rfl : j = k := by omega
              exact HV.out
          · obtain ⟨d, hd⟩ := HW.out
            first | exact ⟨d, hd⟩ | exact ⟨_, by rw [hd, World.drewN_drewN]⟩
        case measure => simp [intOf]; omega
      · have HE := Lib.hid (all_not_in xs k hlt hr)
        rcases inRange_no hr with h1 | h1
        · clear hr
          go_wp2_with fail
          go_ret
          exact ⟨ret_bool HE.out.symm, HW.out⟩
        · have h0 : ¬ xs[k] < -1073741824 := by omega
          clear hr
          go_wp2_with fail
          go_ret
          exact ⟨ret_bool HE.out.symm, HW.out⟩
    · obtain rfl : k = xs.length := by omega
      have HE := Lib.hid (all_in xs (fun j hj => hinv.out j hj hj))
      go_wp2_with fail
      go_ret
      exact ⟨ret_bool HE.out.symm, HW.out⟩

theorem all_six (m : Mx) : ([m.a, m.b, m.c, m.d, m.e, m.f] : List Int).all inRange = okM m := by
  unfold okM
  simp only [List.all_cons, List.all_nil, Bool.and_true, Bool.and_assoc]
theorem lift6 {w : World} {g : Nat} {a b c d e f : Int} (hr : ReadsInts w (some ⟨g, 0, none⟩) [a, b, c, d, e, f]) (r : Bool) (h : ([a, b, c, d, e, f] : List Int).all inRange = r) :
    Calls Try.prog 40 #[.slice (some ⟨g, 0, none⟩) 6 6] w fun en w' => en = .returned (.bool r) ∧ Below w.heap.size w w' := by
  have h1 := within42 (some ⟨g, 0, none⟩) 6 [a, b, c, d, e, f] w (by simp) hr
  rw [h] at h1
  exact h1.mono fun _ _ ⟨h1, k, h2⟩ => ⟨h1, by rw [h2]; exact below_drewN (Below.refl _ _) k⟩
theorem lift2 {w : World} {g : Nat} {a b : Int} (hr : ReadsInts w (some ⟨g, 0, none⟩) [a, b]) (r : Bool) (h : ([a, b] : List Int).all inRange = r) :
    Calls Try.prog 40 #[.slice (some ⟨g, 0, none⟩) 2 2] w fun en w' => en = .returned (.bool r) ∧ Below w.heap.size w w' := by
  have h1 := within42 (some ⟨g, 0, none⟩) 2 [a, b] w (by simp) hr
  rw [h] at h1
  exact h1.mono fun _ _ ⟨h1, k, h2⟩ => ⟨h1, by rw [h2]; exact below_drewN (Below.refl _ _) k⟩
theorem dot4R (g : Nat) (a b c d n e : Int) (w : World) (hr : ReadsInts w (some ⟨g, 0, none⟩) [a, b, c, d]) (hn : dotN [a, b, c, d] = n) (he : dotE [a, b, c, d] = e) :
    Calls Try.prog 39 #[.slice (some ⟨g, 0, none⟩) 4 4] w fun en w' => en = .returned (.tuple #[.int .i64 n, .int .i64 e]) ∧ Below w.heap.size w w' := by
  have h := dotR_any (some ⟨g, 0, none⟩) 4 [a, b, c, d] w (by simp) hr
  rw [hn, he] at h
  exact h.mono fun _ _ ⟨h1, k, h2⟩ => ⟨h1, by rw [h2]; exact below_drewN (Below.refl _ _) k⟩
theorem dot6R (g : Nat) (a b c d f n e : Int) (w : World) (hr : ReadsInts w (some ⟨g, 0, none⟩) [a, b, c, d, f, 10000]) (hn : dotN [a, b, c, d, f, 10000] = n) (he : dotE [a, b, c, d, f, 10000] = e) :
    Calls Try.prog 39 #[.slice (some ⟨g, 0, none⟩) 6 6] w fun en w' => en = .returned (.tuple #[.int .i64 n, .int .i64 e]) ∧ Below w.heap.size w w' := by
  have h := dotR_any (some ⟨g, 0, none⟩) 6 [a, b, c, d, f, 10000] w (by simp) hr
  rw [hn, he] at h
  exact h.mono fun _ _ ⟨h1, k, h2⟩ => ⟨h1, by rw [h2]; exact below_drewN (Below.refl _ _) k⟩
theorem reads2 (w : World) (a b : Int) (t : TypeId) : ReadsInts (w.alloc (.cells #[.int .i64 a, .int .i64 b] t)) (some ⟨w.heap.size, 0, none⟩) [a, b] := by
  intro j hj
  refine ⟨w.heap.size, 0, rfl, ?_⟩
  have hj' : j < 2 := hj
  have h := (Blk.new w t #[.int .i64 a, .int .i64 b]).cell (0 + j)
  rw [h]
  rcases (show j = 0 ∨ j = 1 by omega) with rfl | rfl <;> rfl

set_option maxRecDepth 100000 in
set_option maxHeartbeats 4000000 in
theorem check42 (m : Mx) (w : World) :
    Calls Try.prog 24 #[mxV m] w fun e w' => e = .returned (.int .i64 (chkM m)) ∧ Below w.heap.size w w' := by
  unfold mxV
  obtain ⟨N, hN⟩ : ∃ N, w.heap.size = N := ⟨_, rfl⟩
  obtain ⟨V, hV⟩ : ∃ V, w.alloc (.cells #[.int .i64 m.a, .int .i64 m.b, .int .i64 m.c, .int .i64 m.d, .int .i64 m.e, .int .i64 m.f] 23) = V := ⟨_, rfl⟩
  have HC := Lib.hid (show Blk V N 23 #[.int .i64 m.a, .int .i64 m.b, .int .i64 m.c, .int .i64 m.d, .int .i64 m.e, .int .i64 m.f] by rw [← hV, ← hN]; exact Blk.new w _ _)
  have HB := Lib.hid (show Below N w V by rw [← hV, ← hN]; exact (Below.refl _ w).alloc (Nat.le_refl _) _)
  have HS := Lib.hid (show N ≤ V.heap.size by rw [← hV, World.size_alloc, hN]; omega)
  rw [hN]
  go_enter Try.func24, Try.ntmps24
  go_upto_region 1 with fail
  clear hV hN
  obtain ⟨⟨c0, c1, c2, c3, c4, c5⟩, _⟩ := six_cells HC.out
  obtain ⟨G, hG⟩ : ∃ G, V.heap.size = G := ⟨_, rfl⟩
  obtain ⟨w6, hw6⟩ : ∃ w6, V.alloc (.cells #[.int .i64 m.a, .int .i64 m.b, .int .i64 m.c, .int .i64 m.d, .int .i64 m.e, .int .i64 m.f] 2) = w6 := ⟨_, rfl⟩
  have HRd : Hid (ReadsInts w6 (some ⟨G, 0, none⟩) [m.a, m.b, m.c, m.d, m.e, m.f]) := Lib.hid (by rw [← hw6, ← hG]; exact reads6 _ _ _ _ _ _ _ _)
  have HB6 := Lib.hid (show Below N w w6 by rw [← hw6]; exact HB.out.alloc HS.out _)
  have HS6 := Lib.hid (show N ≤ w6.heap.size by rw [← hw6, World.size_alloc]; have := HS.out; omega)
  go_wp2_with fail
  clear c0 c1 c2 c3 c4 c5
  by_cases ho : okM m = true
  · have HE := Lib.hid (chk_yes ho)
    refine (lift6 (by first | exact HRd.out | (rw [hw6, hG]; exact HRd.out)) true ((all_six m).trans ho)).mono ?_
    rintro e w' ⟨rfl, hb⟩
    have HF := Lib.hid (show Below N w w' from HB6.out.trans (by first | exact hb.mono HS6.out | (rw [hw6] at hb; exact hb.mono HS6.out)))
    clear hb
    go_wp2_with fail
    go_ret
    exact ⟨ret_int HE.out.symm, HF.out⟩
  · have HE := Lib.hid (chk_no ho)
    refine (lift6 (by first | exact HRd.out | (rw [hw6, hG]; exact HRd.out)) false ((all_six m).trans (Bool.eq_false_iff.2 ho))).mono ?_
    rintro e w' ⟨rfl, hb⟩
    have HF := Lib.hid (show Below N w w' from HB6.out.trans (by first | exact hb.mono HS6.out | (rw [hw6] at hb; exact hb.mono HS6.out)))
    clear hb
    go_wp2_with fail
    go_ret
    exact ⟨ret_int HE.out.symm, HF.out⟩
end Go.Proofs.Ythihmbicalacfaa
