/-
  Lemmas and walks, joined: LexAl.
-/
import Derived.Test.YtpngnekoocpncaaGreatDoorM16
import Derived.RegionTactic
namespace Go.Proofs.YtpngnekoocpncaaGreatDoor
open Go.RowKit Oct Fix Lex

theorem upto_len (n : Nat) : ∀ (l : List UInt8) (a : Nat), a ≤ l.length → (uptoN n l a).1.length + a ≤ l.length := by
  induction n with
  | zero => intro l a h; rw [upto_zero]; simpa using h
  | succ n ih =>
    intro l a h
    by_cases he : (nextR l a).err = 0
    · by_cases hk : (nextR l a).kind = 0
      · rw [upto_end he hk]; simpa using h
      · rw [upto_more he hk]
        obtain ⟨n1, n2, n3⟩ := next_some h he hk
        have n4 := (next_le l a h).1
        have := ih l (nextI l a + (nextR l a).len) n3
        unfold consT
        split
        · simp only [List.length_cons]; omega
        · omega
    · rw [upto_bad he]; simpa using h

set_option maxRecDepth 100000 in
set_option maxHeartbeats 4000000 in
theorem all_any (s : ByteArray) (r : Up) (w : World) (hs : s.size ≤ 100000) (hm : MaxLenAt w) (hr : uptoI s.data.toList 0 1048576 = r) :
    Calls Tryz.prog 14 #[.string s] w (UptoEnd r w) := by
  have hsl : s.data.toList.length = s.size := by simp
  have hlen : r.1.length ≤ 100000 := by
    have h1 : uptoI s.data.toList 0 1048576 = uptoN 1048576 s.data.toList 0 := by unfold uptoI; rw [if_neg (by omega)]; rfl
    rw [← hr, h1]
    have := upto_len 1048576 s.data.toList 0 (Nat.zero_le _)
    omega
  have hl2 : (r.1.length : Int) < 1048576 := by omega
  have hcall := fun W hW => upto_any s 0 1048576 r W hs hW hr
  have HC := Lib.hid hcall
  have HM0 := Lib.hid (hm.alloc (.cells #[.int .i64 0, .int .i64 0] 37))
  clear hsl hr hcall hm
  go_enter Tryz.func14, Tryz.ntmps14
  go_wp2_with fail
  refine (HC.out _ HM0.out).mono ?_
  rintro e w2 ⟨A, C, rfl, hown, hb⟩
  simp at hown hb
  go_upto_region 2 with (fail)
  obtain ⟨w3, hw3⟩ : ∃ w3, w2.alloc (.cells #[.int .i64 r.2.1, .int .i64 r.2.2] 37) = w3 := ⟨_, rfl⟩
  have hX : Blk w3 w2.heap.size 37 #[.int .i64 r.2.1, .int .i64 r.2.2] := by rw [← hw3]; exact Blk.new _ _ _
  have hD : Blk w3 w.heap.size 37 #[.int .i64 0, .int .i64 0] := by rw [← hw3]; exact ((Blk.new w 37 _).below hb (by omega)).alloc _
  have HO3 := Lib.hid (show w3.ownsRow (w.heap.size + 1) 31 5 (.slice A r.1.length C) r.1.length (rowCells r.1) by rw [← hw3]; exact hown.alloc _)
  have hg0 := hb.size
  have HB3 := Lib.hid (show Below w.heap.size w w3 by rw [← hw3]; exact (tok_below hb).alloc (by simp at hg0; omega) _)
  have hne : ¬ w.heap.size = w2.heap.size := by simp at hg0; omega
  have hne2 : ¬ w2.heap.size = w.heap.size := by omega
  rw [hw3]
  clear hw3 hb hown hg0
  obtain ⟨g2, hg2⟩ : ∃ g2, w2.heap.size = g2 := ⟨_, rfl⟩
  rw [hg2] at hX hne hne2
  simp only [hg2]
  clear hg2
  have x0 := hX.cell 0
  have x1 := hX.cell 1
  have d0 := hD.cell 0
  have d1 := hD.cell 1
  have f0 := hD.frozen 0
  have f1 := hD.frozen 1
  simp only [List.getElem?_toArray, List.getElem?_cons_zero, List.getElem?_cons_succ] at x0 x1 d0 d1
  clear hX hD
  go_wp2_with fail
  go_region
  all_goals
    go_wp2_with fail
    exact bodyPost_ret (v := .tuple #[.slice A r.1.length C, .agg #[.int .i64 r.2.1, .int .i64 r.2.2]]) (by simp [results, Tryz.results14, go_sem, d0, d1]) rfl ⟨A, C, rfl, (own_set (own_set HO3.out (by omega) _ _) (by omega) _ _).mono (by omega), (set_below (set_below HB3.out _ _) _ _).drew⟩
end Go.Proofs.YtpngnekoocpncaaGreatDoor
