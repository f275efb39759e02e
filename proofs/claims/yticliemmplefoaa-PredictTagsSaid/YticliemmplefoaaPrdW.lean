/-
  predict's Encode and Decode.
-/
import Derived.Test.YticliemmplefoaaPrdV
namespace Go.Proofs.Yticliemmplefoaa
open Go.RowKit Oct Prd

theorem encF_no {pr co cl : Int} {l : List UInt8} (h : (encF pr co cl l).1 ≠ 0) : (encF pr co cl l).2 = [] := by
  unfold encF at h ⊢
  split
  · rfl
  · rename_i h1
    rw [if_neg h1] at h
    split
    · rename_i h2
      rw [if_pos h2] at h
      exact absurd rfl h
    · rename_i h2
      rw [if_neg h2] at h
      split
      · rfl
      · rename_i h3
        rw [if_neg h3] at h
        exact absurd rfl h
theorem decF_no {pr co cl : Int} {l : List UInt8} (h : (decF pr co cl l).1 ≠ 0) : (decF pr co cl l).2 = [] := by
  unfold decF at h ⊢
  split
  · rfl
  · rename_i h1
    rw [if_neg h1] at h
    split
    · rename_i h2
      rw [if_pos h2] at h
      exact absurd rfl h
    · rename_i h2
      rw [if_neg h2] at h
      split
      · rfl
      · rename_i h3
        rw [if_neg h3] at h
        unfold decRes at h ⊢
        split
        · rfl
        · rename_i h4
          rw [h4] at h
          exact absurd rfl h

set_option maxRecDepth 100000 in
set_option maxHeartbeats 8000000 in
theorem encP_any (s : ByteArray) (pr co cl : Int) (w : World) (hs : s.size ≤ 4000) (h0 : I64 pr) (h1 : I64 co) (h2 : I64 cl) :
    Calls Try.prog 5 #[parmsV pr co cl, .string s] w (CodeIs (encF pr co cl s.data.toList) w) := by
  obtain ⟨l, hl⟩ : ∃ l, s.data.toList = l := ⟨_, rfl⟩
  rw [hl]
  have hmf : ∀ (fn : Fn) (first cap : Array Value) (w : World), (Instr.makeFunc fn first cap).run Try.prog w = .ok (.func fn first cap) w := fun _ _ _ _ => rfl
  obtain ⟨N, hN⟩ : ∃ N, w.heap.size = N := ⟨_, rfl⟩
  obtain ⟨V, hV⟩ : ∃ V, (w.alloc (.cells #[.int .i64 pr, .int .i64 co, .int .i64 cl] 23)).alloc (.cells #[.string s] 9) = V := ⟨_, rfl⟩
  have hVs : V.heap.size = N + 2 := by rw [← hV, World.size_alloc, World.size_alloc, hN]
  have bP : Blk V N 23 #[.int .i64 pr, .int .i64 co, .int .i64 cl] := by
    rw [← hV, ← hN]
    exact (Blk.new w _ _).alloc _
  have bQ : Blk V (N + 1) 9 #[.string s] := by
    rw [← hV]
    have := Blk.new (w.alloc (.cells #[.int .i64 pr, .int .i64 co, .int .i64 cl] 23)) 9 #[.string s]
    rw [World.size_alloc, hN] at this
    exact this
  have HBV := Lib.hid (show Below N w V by rw [← hV, ← hN]; exact ((Below.refl _ w).alloc (Nat.le_refl _) _).alloc (by simp) _)
  obtain ⟨U, hU⟩ : ∃ U, V.alloc (.cells #[.int .i64 0] 26) = U := ⟨_, rfl⟩
  have hUs : U.heap.size = N + 3 := by rw [← hU, World.size_alloc, hVs]
  have bPU : Blk U N 23 #[.int .i64 pr, .int .i64 co, .int .i64 cl] := by rw [← hU]; exact bP.alloc _
  have bQU : Blk U (N + 1) 9 #[.string s] := by rw [← hU]; exact bQ.alloc _
  have bE : Blk U (N + 2) 26 #[.int .i64 0] := by
    rw [← hU, ← hVs]
    exact Blk.new V _ _
  have HBU := Lib.hid (show Below N w U by rw [← hU]; exact HBV.out.alloc (by rw [hVs]; omega) _)
  have HCt : Hid (Calls Try.prog 12 #[.func (.func 13) #[] #[.pointer (some ⟨N, 0, none⟩), .pointer (some ⟨N + 1, 0, none⟩)]] V fun e w' => e = .returned (.tuple #[.string ⟨(encF pr co cl l).2.toArray⟩, .int .i64 (encF pr co cl l).1]) ∧ Below N w w') := Lib.hid (by
    have hend : ∀ (w1 : World) (x : Int), Below U.heap.size U w1 → Below N w (w1.setCell ⟨V.heap.size, 0, none⟩ (.int .i64 x)) := fun w1 x hb =>
      prd_set (HBU.out.trans (hb.mono (by omega))) (by omega) _ _
    by_cases hr : (encF pr co cl l).1 = 0
    · refine (caught_ok 13 _ ⟨(encF pr co cl l).2.toArray⟩ (fun w' => Below U.heap.size U w') V (enters_of Try.func13 (by kernel_rfl) rfl _) (fun w' h => by rw [hVs]; exact bE.below h bE.lt) (by rw [hU]; exact enc1_ok s l pr co cl _ N (N + 1) U hl hs h0 h1 h2 bPU bQU hr rfl)).mono ?_
      rintro e w' ⟨rfl, w1, hb, rfl⟩
      exact ⟨by rw [hr], hend w1 0 hb⟩
    · refine (caught_no 13 _ (encF pr co cl l).1 (fun w' => Below U.heap.size U w') V (enters_of Try.func13 (by kernel_rfl) rfl _) (fun w' h => by rw [hVs]; exact bE.below h bE.lt) (by rw [hU]; exact enc1_no s l pr co cl _ N (N + 1) U hl hs h0 h1 h2 bPU bQU rfl hr)).mono ?_
      rintro e w' ⟨rfl, w1, hb, rfl⟩
      exact ⟨by rw [encF_no hr], hend w1 _ hb⟩)
  unfold CodeIs parmsV
  rw [hN]
  obtain ⟨A, hA⟩ : ∃ A : ByteArray, ⟨(encF pr co cl l).2.toArray⟩ = A := ⟨_, rfl⟩
  obtain ⟨x, hx⟩ : ∃ x, (encF pr co cl l).1 = x := ⟨_, rfl⟩
  rw [hA, hx] at HCt ⊢
  clear bP bQ bPU bQU bE hU hUs hA hx hl h0 h1 h2
  go_enter Try.func5, Try.ntmps5
  go_wp2_with fail
  refine HCt.out.mono ?_
  rintro e w' ⟨rfl, hb⟩
  have HB := Lib.hid hb
  clear hb
  go_wp2_with fail
  go_ret2
  exact ⟨rfl, HB.out⟩

set_option maxRecDepth 100000 in
set_option maxHeartbeats 8000000 in
theorem decP_any (s : ByteArray) (pr co cl : Int) (w : World) (hs : s.size ≤ 4000) (h0 : I64 pr) (h1 : I64 co) (h2 : I64 cl) :
    Calls Try.prog 7 #[parmsV pr co cl, .string s] w (CodeIs (decF pr co cl s.data.toList) w) := by
  obtain ⟨l, hl⟩ : ∃ l, s.data.toList = l := ⟨_, rfl⟩
  rw [hl]
  have hmf : ∀ (fn : Fn) (first cap : Array Value) (w : World), (Instr.makeFunc fn first cap).run Try.prog w = .ok (.func fn first cap) w := fun _ _ _ _ => rfl
  obtain ⟨N, hN⟩ : ∃ N, w.heap.size = N := ⟨_, rfl⟩
  obtain ⟨V, hV⟩ : ∃ V, (w.alloc (.cells #[.int .i64 pr, .int .i64 co, .int .i64 cl] 23)).alloc (.cells #[.string s] 9) = V := ⟨_, rfl⟩
  have hVs : V.heap.size = N + 2 := by rw [← hV, World.size_alloc, World.size_alloc, hN]
  have bP : Blk V N 23 #[.int .i64 pr, .int .i64 co, .int .i64 cl] := by
    rw [← hV, ← hN]
    exact (Blk.new w _ _).alloc _
  have bQ : Blk V (N + 1) 9 #[.string s] := by
    rw [← hV]
    have := Blk.new (w.alloc (.cells #[.int .i64 pr, .int .i64 co, .int .i64 cl] 23)) 9 #[.string s]
    rw [World.size_alloc, hN] at this
    exact this
  have HBV := Lib.hid (show Below N w V by rw [← hV, ← hN]; exact ((Below.refl _ w).alloc (Nat.le_refl _) _).alloc (by simp) _)
  obtain ⟨U, hU⟩ : ∃ U, V.alloc (.cells #[.int .i64 0] 26) = U := ⟨_, rfl⟩
  have hUs : U.heap.size = N + 3 := by rw [← hU, World.size_alloc, hVs]
  have bPU : Blk U N 23 #[.int .i64 pr, .int .i64 co, .int .i64 cl] := by rw [← hU]; exact bP.alloc _
  have bQU : Blk U (N + 1) 9 #[.string s] := by rw [← hU]; exact bQ.alloc _
  have bE : Blk U (N + 2) 26 #[.int .i64 0] := by
    rw [← hU, ← hVs]
    exact Blk.new V _ _
  have HBU := Lib.hid (show Below N w U by rw [← hU]; exact HBV.out.alloc (by rw [hVs]; omega) _)
  have HCt : Hid (Calls Try.prog 12 #[.func (.func 17) #[] #[.pointer (some ⟨N, 0, none⟩), .pointer (some ⟨N + 1, 0, none⟩)]] V fun e w' => e = .returned (.tuple #[.string ⟨(decF pr co cl l).2.toArray⟩, .int .i64 (decF pr co cl l).1]) ∧ Below N w w') := Lib.hid (by
    have hend : ∀ (w1 : World) (x : Int), Below U.heap.size U w1 → Below N w (w1.setCell ⟨V.heap.size, 0, none⟩ (.int .i64 x)) := fun w1 x hb =>
      prd_set (HBU.out.trans (hb.mono (by omega))) (by omega) _ _
    by_cases hr : (decF pr co cl l).1 = 0
    · refine (caught_ok 17 _ ⟨(decF pr co cl l).2.toArray⟩ (fun w' => Below U.heap.size U w') V (enters_of Try.func17 (by kernel_rfl) rfl _) (fun w' h => by rw [hVs]; exact bE.below h bE.lt) (by rw [hU]; exact dec1_ok s l pr co cl _ N (N + 1) U hl hs h0 h1 h2 bPU bQU hr rfl)).mono ?_
      rintro e w' ⟨rfl, w1, hb, rfl⟩
      exact ⟨by rw [hr], hend w1 0 hb⟩
    · refine (caught_no 17 _ (decF pr co cl l).1 (fun w' => Below U.heap.size U w') V (enters_of Try.func17 (by kernel_rfl) rfl _) (fun w' h => by rw [hVs]; exact bE.below h bE.lt) (by rw [hU]; exact dec1_no s l pr co cl _ N (N + 1) U hl hs h0 h1 h2 bPU bQU rfl hr)).mono ?_
      rintro e w' ⟨rfl, w1, hb, rfl⟩
      exact ⟨by rw [decF_no hr], hend w1 _ hb⟩)
  unfold CodeIs parmsV
  rw [hN]
  obtain ⟨A, hA⟩ : ∃ A : ByteArray, ⟨(decF pr co cl l).2.toArray⟩ = A := ⟨_, rfl⟩
  obtain ⟨x, hx⟩ : ∃ x, (decF pr co cl l).1 = x := ⟨_, rfl⟩
  rw [hA, hx] at HCt ⊢
  clear bP bQ bPU bQU bE hU hUs hA hx hl h0 h1 h2
  go_enter Try.func7, Try.ntmps7
  go_wp2_with fail
  refine HCt.out.mono ?_
  rintro e w' ⟨rfl, hb⟩
  have HB := Lib.hid hb
  clear hb
  go_wp2_with fail
  go_ret2
  exact ⟨rfl, HB.out⟩

end Go.Proofs.Yticliemmplefoaa
