/-
  fix.Read at malformed strings.
-/
import Derived.Test.YtmimeconkmfkfaaDoorFixRa
namespace Go.Proofs.YtmimeconkmfkfaaDoor
open Go.RowKit Fix

def BadEnd (w : World) (e : Ending) (w' : World) : Prop := e = .returned (.tuple #[.int .i64 0, .int .i64 3]) ∧ Below w.heap.size w w'
theorem bad_three {w : World} {a b : Obj} {n : Nat} {o : Obj} : Below w.heap.size w ((((w.alloc o).drewN n).alloc a).alloc b) :=
  ((below_drewN ((Below.refl _ _).alloc (Nat.le_refl _) _) _).alloc (by simp) _).alloc (by simp; omega) _

set_option maxHeartbeats 1600000 in
theorem read_long (s : ByteArray) (w : World) (hz : s.size ≤ 100000) (hm : MaxLenAt w) (hk : 40 < s.size) :
    Calls Tryd.prog 9 #[.string s] w (BadEnd w) := by
  obtain ⟨B, hB⟩ := mk_bytes (befL s.data.toList)
  obtain ⟨C, hC⟩ := mk_bytes (aftL s.data.toList)
  have hl1 := split_len (bodyL s.data.toList)
  have hl2 := body_len s.data.toList
  rw [size_list] at hl2
  have hBs : B.size ≤ 100000 := by rw [← size_list, hB]; unfold befL; omega
  have hCs : C.size ≤ 100000 := by rw [← size_list, hC]; unfold aftL; omega
  have hsplit : splitP (bodyL s.data.toList) = (B.data.toList, C.data.toList, (splitP (bodyL s.data.toList)).2.2) := by rw [hB, hC]; rfl
  have HF := Lib.hid hsplit
  have HM := Lib.hid hm
  have hk' : (40 : Int) < (s.size : Int) := by omega
  clear hB hC hl1 hl2 hsplit hm
  rcases sign_of s with hs | hs | hs
  · have HS := Lib.hid hs
    have hs1 : (1 : Int) ≤ (s.size : Int) := by have := hs.2.1; omega
    clear hs
    go_enter Tryd.func9, Tryd.ntmps9
    go_wp2_with fail
    refine (prefix_c _ _ _ HS.out.1 _).mono ?_
    rintro e w' ⟨rfl, rfl⟩
    go_wp2_with fail
    refine (cut_c _ B C _ _ (HM.out.alloc _) (by simp; omega) (by rw [HS.out.2.2.1]; exact HF.out)).mono ?_
    rintro e w' ⟨rfl, nd, rfl⟩
    go_wp2_with fail
    go_ret2
    exact ⟨rfl, bad_three⟩
  · have HS := Lib.hid hs
    have hs1 : (1 : Int) ≤ (s.size : Int) := by have := hs.2.2.1; omega
    clear hs
    go_enter Tryd.func9, Tryd.ntmps9
    go_wp2_with fail
    refine (prefix_c _ _ _ HS.out.1 _).mono ?_
    rintro e w' ⟨rfl, rfl⟩
    go_wp2_with fail
    refine (prefix_c _ _ _ HS.out.2.1 _).mono ?_
    rintro e w' ⟨rfl, rfl⟩
    go_wp2_with fail
    refine (cut_c _ B C _ _ (HM.out.alloc _) (by simp; omega) (by rw [HS.out.2.2.2.1]; exact HF.out)).mono ?_
    rintro e w' ⟨rfl, nd, rfl⟩
    go_wp2_with fail
    go_ret2
    exact ⟨rfl, bad_three⟩
  · have HS := Lib.hid hs
    clear hs
    go_enter Tryd.func9, Tryd.ntmps9
    go_wp2_with fail
    refine (prefix_c _ _ _ HS.out.1 _).mono ?_
    rintro e w' ⟨rfl, rfl⟩
    go_wp2_with fail
    refine (prefix_c _ _ _ HS.out.2.1 _).mono ?_
    rintro e w' ⟨rfl, rfl⟩
    go_wp2_with fail
    refine (cut_c _ B C _ _ (HM.out.alloc _) (by omega) (by rw [HS.out.2.2.1]; exact HF.out)).mono ?_
    rintro e w' ⟨rfl, nd, rfl⟩
    go_wp2_with fail
    go_ret2
    exact ⟨rfl, bad_three⟩

set_option maxHeartbeats 1600000 in
theorem read_empty (s : ByteArray) (w : World) (hz : s.size ≤ 100000) (hm : MaxLenAt w) (hs40 : s.size ≤ 40) (hk : (befL s.data.toList ++ aftL s.data.toList).isEmpty = true) :
    Calls Tryd.prog 9 #[.string s] w (BadEnd w) := by
  obtain ⟨B, hB⟩ := mk_bytes (befL s.data.toList)
  obtain ⟨C, hC⟩ := mk_bytes (aftL s.data.toList)
  have hl1 := split_len (bodyL s.data.toList)
  have hl2 := body_len s.data.toList
  rw [size_list] at hl2
  have hBs : B.size ≤ 100000 := by rw [← size_list, hB]; unfold befL; omega
  have hCs : C.size ≤ 100000 := by rw [← size_list, hC]; unfold aftL; omega
  have hsplit : splitP (bodyL s.data.toList) = (B.data.toList, C.data.toList, (splitP (bodyL s.data.toList)).2.2) := by rw [hB, hC]; rfl
  have HF := Lib.hid hsplit
  have HM := Lib.hid hm
  have hs40' : ¬ (40 : Int) < (s.size : Int) := by omega
  have hE : (B ++ C).toList.isEmpty = true := by rw [Lib.toList_data]; simp only [ByteArray.data_append, Array.toList_append]; rw [hB, hC]; exact hk
  clear hB hC hl1 hl2 hsplit hm hk
  rcases sign_of s with hs | hs | hs
  · have HS := Lib.hid hs
    have hs1 : (1 : Int) ≤ (s.size : Int) := by have := hs.2.1; omega
    clear hs
    go_enter Tryd.func9, Tryd.ntmps9
    go_wp2_with fail
    refine (prefix_c _ _ _ HS.out.1 _).mono ?_
    rintro e w' ⟨rfl, rfl⟩
    go_wp2_with fail
    refine (cut_c _ B C _ _ (HM.out.alloc _) (by simp; omega) (by rw [HS.out.2.2.1]; exact HF.out)).mono ?_
    rintro e w' ⟨rfl, nd, rfl⟩
    go_wp2_with fail
    go_ret2
    exact ⟨rfl, bad_three⟩
  · have HS := Lib.hid hs
    have hs1 : (1 : Int) ≤ (s.size : Int) := by have := hs.2.2.1; omega
    clear hs
    go_enter Tryd.func9, Tryd.ntmps9
    go_wp2_with fail
    refine (prefix_c _ _ _ HS.out.1 _).mono ?_
    rintro e w' ⟨rfl, rfl⟩
    go_wp2_with fail
    refine (prefix_c _ _ _ HS.out.2.1 _).mono ?_
    rintro e w' ⟨rfl, rfl⟩
    go_wp2_with fail
    refine (cut_c _ B C _ _ (HM.out.alloc _) (by simp; omega) (by rw [HS.out.2.2.2.1]; exact HF.out)).mono ?_
    rintro e w' ⟨rfl, nd, rfl⟩
    go_wp2_with fail
    go_ret2
    exact ⟨rfl, bad_three⟩
  · have HS := Lib.hid hs
    clear hs
    go_enter Tryd.func9, Tryd.ntmps9
    go_wp2_with fail
    refine (prefix_c _ _ _ HS.out.1 _).mono ?_
    rintro e w' ⟨rfl, rfl⟩
    go_wp2_with fail
    refine (prefix_c _ _ _ HS.out.2.1 _).mono ?_
    rintro e w' ⟨rfl, rfl⟩
    go_wp2_with fail
    refine (cut_c _ B C _ _ (HM.out.alloc _) (by omega) (by rw [HS.out.2.2.1]; exact HF.out)).mono ?_
    rintro e w' ⟨rfl, nd, rfl⟩
    go_wp2_with fail
    go_ret2
    exact ⟨rfl, bad_three⟩

set_option maxHeartbeats 1600000 in
theorem read_bef (s : ByteArray) (w : World) (hz : s.size ≤ 100000) (hm : MaxLenAt w) (hs40 : s.size ≤ 40) (hk : (befL s.data.toList ++ aftL s.data.toList).isEmpty = false) (hk2 : (befL s.data.toList).all isDig = false) :
    Calls Tryd.prog 9 #[.string s] w (BadEnd w) := by
  obtain ⟨B, hB⟩ := mk_bytes (befL s.data.toList)
  obtain ⟨C, hC⟩ := mk_bytes (aftL s.data.toList)
  have hl1 := split_len (bodyL s.data.toList)
  have hl2 := body_len s.data.toList
  rw [size_list] at hl2
  have hBs : B.size ≤ 100000 := by rw [← size_list, hB]; unfold befL; omega
  have hCs : C.size ≤ 100000 := by rw [← size_list, hC]; unfold aftL; omega
  have hsplit : splitP (bodyL s.data.toList) = (B.data.toList, C.data.toList, (splitP (bodyL s.data.toList)).2.2) := by rw [hB, hC]; rfl
  have HF := Lib.hid hsplit
  have HM := Lib.hid hm
  have hs40' : ¬ (40 : Int) < (s.size : Int) := by omega
  have hE : (B ++ C).toList.isEmpty = false := by rw [Lib.toList_data]; simp only [ByteArray.data_append, Array.toList_append]; rw [hB, hC]; exact hk
  have hd1 : decB B = false := by unfold decB; rw [hB]; exact hk2
  have HD1 := Lib.hid hd1
  clear hB hC hl1 hl2 hsplit hm hk hk2 hd1
  rcases sign_of s with hs | hs | hs
  · have HS := Lib.hid hs
    have hs1 : (1 : Int) ≤ (s.size : Int) := by have := hs.2.1; omega
    clear hs
    go_enter Tryd.func9, Tryd.ntmps9
    go_wp2_with fail
    refine (prefix_c _ _ _ HS.out.1 _).mono ?_
    rintro e w' ⟨rfl, rfl⟩
    go_wp2_with fail
    refine (cut_c _ B C _ _ (HM.out.alloc _) (by simp; omega) (by rw [HS.out.2.2.1]; exact HF.out)).mono ?_
    rintro e w' ⟨rfl, nd, rfl⟩
    go_wp2_with fail
    refine (decimal_c _ _ _ (by omega) HD1.out).mono ?_
    rintro e w' ⟨rfl, rfl⟩
    go_wp2_with fail
    go_ret2
    exact ⟨rfl, bad_three⟩
  · have HS := Lib.hid hs
    have hs1 : (1 : Int) ≤ (s.size : Int) := by have := hs.2.2.1; omega
    clear hs
    go_enter Tryd.func9, Tryd.ntmps9
    go_wp2_with fail
    refine (prefix_c _ _ _ HS.out.1 _).mono ?_
    rintro e w' ⟨rfl, rfl⟩
    go_wp2_with fail
    refine (prefix_c _ _ _ HS.out.2.1 _).mono ?_
    rintro e w' ⟨rfl, rfl⟩
    go_wp2_with fail
    refine (cut_c _ B C _ _ (HM.out.alloc _) (by simp; omega) (by rw [HS.out.2.2.2.1]; exact HF.out)).mono ?_
    rintro e w' ⟨rfl, nd, rfl⟩
    go_wp2_with fail
    refine (decimal_c _ _ _ (by omega) HD1.out).mono ?_
    rintro e w' ⟨rfl, rfl⟩
    go_wp2_with fail
    go_ret2
    exact ⟨rfl, bad_three⟩
  · have HS := Lib.hid hs
    clear hs
    go_enter Tryd.func9, Tryd.ntmps9
    go_wp2_with fail
    refine (prefix_c _ _ _ HS.out.1 _).mono ?_
    rintro e w' ⟨rfl, rfl⟩
    go_wp2_with fail
    refine (prefix_c _ _ _ HS.out.2.1 _).mono ?_
    rintro e w' ⟨rfl, rfl⟩
    go_wp2_with fail
    refine (cut_c _ B C _ _ (HM.out.alloc _) (by omega) (by rw [HS.out.2.2.1]; exact HF.out)).mono ?_
    rintro e w' ⟨rfl, nd, rfl⟩
    go_wp2_with fail
    refine (decimal_c _ _ _ (by omega) HD1.out).mono ?_
    rintro e w' ⟨rfl, rfl⟩
    go_wp2_with fail
    go_ret2
    exact ⟨rfl, bad_three⟩

set_option maxHeartbeats 1600000 in
theorem read_aft (s : ByteArray) (w : World) (hz : s.size ≤ 100000) (hm : MaxLenAt w) (hs40 : s.size ≤ 40) (hk : (befL s.data.toList ++ aftL s.data.toList).isEmpty = false) (hk2 : (befL s.data.toList).all isDig = true) (hk3 : (aftL s.data.toList).all isDig = false) :
    Calls Tryd.prog 9 #[.string s] w (BadEnd w) := by
  obtain ⟨B, hB⟩ := mk_bytes (befL s.data.toList)
  obtain ⟨C, hC⟩ := mk_bytes (aftL s.data.toList)
  have hl1 := split_len (bodyL s.data.toList)
  have hl2 := body_len s.data.toList
  rw [size_list] at hl2
  have hBs : B.size ≤ 100000 := by rw [← size_list, hB]; unfold befL; omega
  have hCs : C.size ≤ 100000 := by rw [← size_list, hC]; unfold aftL; omega
  have hsplit : splitP (bodyL s.data.toList) = (B.data.toList, C.data.toList, (splitP (bodyL s.data.toList)).2.2) := by rw [hB, hC]; rfl
  have HF := Lib.hid hsplit
  have HM := Lib.hid hm
  have hs40' : ¬ (40 : Int) < (s.size : Int) := by omega
  have hE : (B ++ C).toList.isEmpty = false := by rw [Lib.toList_data]; simp only [ByteArray.data_append, Array.toList_append]; rw [hB, hC]; exact hk
  have hd1 : decB B = true := by unfold decB; rw [hB]; exact hk2
  have HD1 := Lib.hid hd1
  have hd2 : decB C = false := by unfold decB; rw [hC]; exact hk3
  have HD2 := Lib.hid hd2
  clear hB hC hl1 hl2 hsplit hm hk hk2 hd1 hk3 hd2
  rcases sign_of s with hs | hs | hs
  · have HS := Lib.hid hs
    have hs1 : (1 : Int) ≤ (s.size : Int) := by have := hs.2.1; omega
    clear hs
    go_enter Tryd.func9, Tryd.ntmps9
    go_wp2_with fail
    refine (prefix_c _ _ _ HS.out.1 _).mono ?_
    rintro e w' ⟨rfl, rfl⟩
    go_wp2_with fail
    refine (cut_c _ B C _ _ (HM.out.alloc _) (by simp; omega) (by rw [HS.out.2.2.1]; exact HF.out)).mono ?_
    rintro e w' ⟨rfl, nd, rfl⟩
    go_wp2_with fail
    refine (decimal_c _ _ _ (by omega) HD1.out).mono ?_
    rintro e w' ⟨rfl, rfl⟩
    go_wp2_with fail
    refine (decimal_c _ _ _ (by omega) HD2.out).mono ?_
    rintro e w' ⟨rfl, rfl⟩
    go_wp2_with fail
    go_ret2
    exact ⟨rfl, bad_three⟩
  · have HS := Lib.hid hs
    have hs1 : (1 : Int) ≤ (s.size : Int) := by have := hs.2.2.1; omega
    clear hs
    go_enter Tryd.func9, Tryd.ntmps9
    go_wp2_with fail
    refine (prefix_c _ _ _ HS.out.1 _).mono ?_
    rintro e w' ⟨rfl, rfl⟩
    go_wp2_with fail
    refine (prefix_c _ _ _ HS.out.2.1 _).mono ?_
    rintro e w' ⟨rfl, rfl⟩
    go_wp2_with fail
    refine (cut_c _ B C _ _ (HM.out.alloc _) (by simp; omega) (by rw [HS.out.2.2.2.1]; exact HF.out)).mono ?_
    rintro e w' ⟨rfl, nd, rfl⟩
    go_wp2_with fail
    refine (decimal_c _ _ _ (by omega) HD1.out).mono ?_
    rintro e w' ⟨rfl, rfl⟩
    go_wp2_with fail
    refine (decimal_c _ _ _ (by omega) HD2.out).mono ?_
    rintro e w' ⟨rfl, rfl⟩
    go_wp2_with fail
    go_ret2
    exact ⟨rfl, bad_three⟩
  · have HS := Lib.hid hs
    clear hs
    go_enter Tryd.func9, Tryd.ntmps9
    go_wp2_with fail
    refine (prefix_c _ _ _ HS.out.1 _).mono ?_
    rintro e w' ⟨rfl, rfl⟩
    go_wp2_with fail
    refine (prefix_c _ _ _ HS.out.2.1 _).mono ?_
    rintro e w' ⟨rfl, rfl⟩
    go_wp2_with fail
    refine (cut_c _ B C _ _ (HM.out.alloc _) (by omega) (by rw [HS.out.2.2.1]; exact HF.out)).mono ?_
    rintro e w' ⟨rfl, nd, rfl⟩
    go_wp2_with fail
    refine (decimal_c _ _ _ (by omega) HD1.out).mono ?_
    rintro e w' ⟨rfl, rfl⟩
    go_wp2_with fail
    refine (decimal_c _ _ _ (by omega) HD2.out).mono ?_
    rintro e w' ⟨rfl, rfl⟩
    go_wp2_with fail
    go_ret2
    exact ⟨rfl, bad_three⟩

theorem read_bad (s : ByteArray) (w : World) (hz : s.size ≤ 100000) (hm : MaxLenAt w) (hg : goodR s.data.toList = false) : Calls Tryd.prog 9 #[.string s] w (BadEnd w) := by
  by_cases h1 : 40 < s.size
  · exact read_long s w hz hm h1
  · by_cases h2 : (befL s.data.toList ++ aftL s.data.toList).isEmpty = true
    · exact read_empty s w hz hm (by omega) h2
    · have h2' := Bool.eq_false_iff.2 h2
      by_cases h3 : (befL s.data.toList).all isDig = true
      · by_cases h4 : (aftL s.data.toList).all isDig = true
        · unfold goodR at hg
          rw [h3, h4, h2', decide_eq_true (by rw [size_list]; omega)] at hg
          cases hg
        · exact read_aft s w hz hm (by omega) h2' h3 (Bool.eq_false_iff.2 h4)
      · exact read_bef s w hz hm (by omega) h2' (Bool.eq_false_iff.2 h3)

theorem read_any (s : ByteArray) (w : World) (hz : s.size ≤ 100000) (hm : MaxLenAt w) :
    Calls Tryd.prog 9 #[.string s] w fun e w' => e = .returned (.tuple #[.int .i64 (readN s.data.toList), .int .i64 (readE s.data.toList)]) ∧ Below w.heap.size w w' := by
  by_cases hg : goodR s.data.toList = true
  · exact read_good s w hg hm
  · refine (read_bad s w hz hm (Bool.eq_false_iff.2 hg)).mono fun _ _ ⟨h1, h2⟩ => ⟨?_, h2⟩
    unfold readN readE
    rw [if_neg hg, if_neg hg]
    exact h1
end Go.Proofs.YtmimeconkmfkfaaDoor
