/-
  What the operators q and Q change: the state is saved behind those that were saved, and taken back from there.
-/
import Derived.Test.YtbagmjedkcipgaaDoorMgSttG
import Derived.Deep.RegionHeld3
import Derived.Deep.AppendLies
import Derived.RegionTactic
namespace Go.Proofs.YtbagmjedkcipgaaDoor
open Go.RowKit
attribute [-go_sem] Builtin.append_ loadCells

/-- The graphics state of a machine. -/
def gOf (M : Array Value) : List Value := M.toList.take 30
theorem gOf_len {M : Array Value} (h : MOk M) : (gOf M).length = 30 := by
  unfold gOf; rw [List.length_take, Array.length_toList, h.1]; rfl
theorem gOf_one {M : Array Value} (h : MOk M) : ∀ u ∈ gOf M, u.oneCell' = true := fun u hu =>
  (Array.all_eq_true_iff_forall_mem.1 h.2) u (by simpa using List.mem_of_mem_take hu)
theorem gInfo {G : List Value} (h : G.length = 30) : (Tryd.prog.info? 40).map (·.size) = some G.length := by
  rw [h]; kernel_rfl
theorem ld_g {M : Array Value} {W : World} {n : Nat} {t : TypeId} (hM : MOk M) (hW : Blk W n t M) : (loadCells ⟨n, 0, none⟩ 30).run Tryd.prog W = .ok (gOf M).toArray W := by
  have := run_loadCells_list (P := Tryd.prog) W ⟨n, 0, none⟩ (gOf M) (fun j u hu => by
    rw [Addr.add_mid, Nat.zero_add, hW.cell]
    unfold gOf at hu
    rw [List.getElem?_take] at hu
    split at hu
    · simpa using hu
    · cases hu)
  rwa [gOf_len hM] at this
theorem fold_zip : ∀ (l : List Value) (k : Nat) (a : Array Value), k + l.length ≤ a.size → (l.zipIdx k).foldl (fun cs x => cs.setIfInBounds x.2 x.1) a = (a.toList.take k ++ l ++ a.toList.drop (k + l.length)).toArray
  | [], k, a, _ => by simp
  | x :: l, k, a, h => by
    rw [List.zipIdx_cons, List.foldl_cons, fold_zip l (k + 1) _ (by rw [Array.size_setIfInBounds]; simp only [List.length_cons] at h; omega)]
    have hk : k < a.toList.length := by rw [Array.length_toList]; simp only [List.length_cons] at h; omega
    have e1 : ((a.toList.set k x).take (k + 1)) = a.toList.take k ++ [x] := by
      rw [List.take_succ_eq_append_getElem (by rw [List.length_set]; exact hk), List.getElem_set_self, List.take_set_of_le (Nat.le_refl _)]
    have e2 : (a.toList.set k x).drop (k + 1 + l.length) = a.toList.drop (k + (l.length + 1)) := by
      rw [List.drop_set_of_lt (by omega), show k + 1 + l.length = k + (l.length + 1) by omega]
    rw [Array.toList_setIfInBounds, e1, e2, List.length_cons]
    simp
theorem fold_g {G : List Value} (h : G.length = 30) (a : Array Value) (ha : a.size = 30) : G.zipIdx.foldl (fun cs x => cs.setIfInBounds x.2 x.1) a = G.toArray := by
  rw [fold_zip G 0 a (by omega)]
  have : a.toList.length = 30 := by rw [Array.length_toList]; exact ha
  simp [h, this]
/-- A machine's cells with the saved states' row put in. -/
def putS (M : Array Value) (v : Value) : Array Value := M.setIfInBounds 30 v
theorem putS_ok {M : Array Value} (h : MOk M) {v : Value} (hv : v.oneCell' = true) : MOk (putS M v) := by
  refine ⟨by unfold putS; rw [Array.size_setIfInBounds]; exact h.1, ?_⟩
  refine Array.all_eq_true_iff_forall_mem.2 fun u hu => ?_
  unfold putS at hu
  rcases Array.mem_or_eq_of_mem_setIfInBounds hu with h1 | h1
  · exact (Array.all_eq_true_iff_forall_mem.1 h.2) u h1
  · rw [h1]; exact hv
theorem putS_at {M : Array Value} (h : MOk M) (v : Value) : (putS M v)[30]? = some v := by
  unfold putS; rw [Array.getElem?_setIfInBounds]; simp [h.1]
theorem putS_g (M : Array Value) (v : Value) : gOf (putS M v) = gOf M := by
  unfold gOf putS
  rw [Array.toList_setIfInBounds, List.take_set_of_le (by omega)]
/-- A machine of a graphics state and of saved ones. -/
def mkM (G : List Value) (v : Value) : Array Value := (G ++ [v]).toArray
theorem mkM_ok {G : List Value} (h : G.length = 30) (h1 : ∀ u ∈ G, u.oneCell' = true) {v : Value} (hv : v.oneCell' = true) : MOk (mkM G v) := by
  refine ⟨by simp [mkM, h], Array.all_eq_true_iff_forall_mem.2 fun u hu => ?_⟩
  simp only [mkM, List.mem_toArray, List.mem_append, List.mem_singleton] at hu
  rcases hu with h2 | h2
  · exact h1 u h2
  · rw [h2]; exact hv
theorem mkM_at {G : List Value} (h : G.length = 30) (v : Value) : (mkM G v)[30]? = some v := by
  simp only [mkM, List.getElem?_toArray]
  rw [List.getElem?_append_right (by omega), h]; rfl
theorem mkM_g {G : List Value} (h : G.length = 30) (v : Value) : gOf (mkM G v) = G := by
  simp only [gOf, mkM]
  rw [List.take_append_of_le_length (by omega), List.take_of_length_le (by omega)]
theorem grown_two {w w' : World} {r : Option Nat} (h : w.grownBy w' r) (n : Nat) : Two w w' n r := ⟨h.os, h.tape, h.output, h.size, fun k hk _ hne => h.block k hk hne⟩

/-- The states that were saved: k of them, their cells xs, in the row v. -/
abbrev Saved (W : World) (v : Value) (k : Nat) (xs : List Value) : Prop := W.ownsRow 0 40 30 v k xs

/-- The zero state. -/
def zeroG : Array Value := #[.int .i64 0, .int .i64 0, .int .i64 0, .int .i64 0, .int .i64 0, .int .i64 0, .int .i64 0, .int .i64 0, .int .i64 0, .int .i64 0, .slice none 0 0, .int .i64 0, .int .i64 0, .int .i64 0, .int .i64 0, .int .i64 0, .int .i64 0, .int .i64 0, .int .i64 0, .int .i64 0, .int .i64 0, .int .i64 0, .int .i64 0, .int .i64 0, .int .i64 0, .int .i64 0, .int .i64 0, .int .i64 0, .string ⟨#[]⟩, .int .i64 0]

set_option maxRecDepth 100000 in
set_option maxHeartbeats 4000000 in
theorem save_any (n : Nat) (M : Array Value) (v : Value) (k : Nat) (xs : List Value) (W : World) (hM : MOk M) (hv : M[30]? = some v) (hb : Blk W n 57 M) (ho : Saved W v k xs) (hk : k < 28) (hne : v.ownBlock ≠ some n) :
    Calls Tryd.prog 29 #[.pointer (some ⟨n, 0, none⟩)] W fun e w' => e = .returned (.tuple #[]) ∧ ∃ v', Blk w' n 57 (putS M v') ∧ v'.oneCell' = true ∧ Saved w' v' (k + 1) (xs ++ gOf M) ∧ v'.ownBlock ≠ some n ∧ (v'.ownBlock = v.ownBlock ∨ ∃ g, v'.ownBlock = some g ∧ W.heap.size ≤ g) ∧ Two W w' n v.ownBlock := by
  obtain ⟨A, cp, rfl⟩ := own_form ho
  have hkI : (k : Int) < 28 := by omega
  have c30 : W.cell? ⟨n, 30, none⟩ = some (.slice A k cp) := (hb.cell 30).trans hv
  have f30 : W.frozen? ⟨n, 30, none⟩ = false := hb.frozen 30
  have HL : Hid (∀ W', (∃ M', Blk W' n 57 M' ∧ gOf M' = gOf M ∧ MOk M') → (loadCells ⟨n, 0, none⟩ 30).run Tryd.prog W' = .ok (gOf M).toArray W') := Lib.hid (fun W' ⟨M', h1, h2, h3⟩ => by rw [← h2]; exact ld_g h3 h1)
  have HM := Lib.hid (And.intro hM hb)
  have HO := Lib.hid ho
  have HN := Lib.hid hne
  have HV := Lib.hid hv
  have HNw : Hid (∀ j u, (gOf M)[j]? = some u → (W.alloc (.cells (gOf M).toArray 40)).drew.cell? ((⟨W.heap.size, 0, none⟩ : Addr).add j) = some u) := Lib.hid (fun j u hu => by
    rw [Addr.add_mid, Nat.zero_add]
    exact ((Blk.new W 40 (gOf M).toArray).cell j).trans (by simpa using hu))
  clear hM ho hne hv
  obtain ⟨i0, hi, hz0, hz1, hz2⟩ := info_parts (P := Tryd.prog) (e := 40) (z := .agg zeroG) (size := 30) (bytes := 264) (by kernel_rfl)
  have HI := Lib.hid (And.intro hi (And.intro hz0 (And.intro hz1 hz2)))
  clear hi hz0 hz1 hz2
  go_enter Tryd.func29, Tryd.ntmps29
  go_wp2_with fail
  have hG := gOf_len HM.out.1
  have hF := fold_g hG zeroG rfl
  unfold zeroG at hF
  have hlen : k * 30 = xs.length := HO.out.1.symm
  have hnW : n < W.heap.size := hb.lt
  have hL1 := HL.out W ⟨M, HM.out.2, rfl, HM.out.1⟩
  have hL2 := HL.out W.drew ⟨M, HM.out.2.drewN 1, rfl, HM.out.1⟩
  obtain ⟨g7, cap7, w7, hrun, hown7, hgrow7, hat7, _⟩ := run_append_lies (P := Tryd.prog) (W.drew.alloc (.cells (gOf M).toArray 40)) 55 55 0 40 i0 (.agg zeroG) 30 264 Tryd.underlying55 HI.out.1 HI.out.2.1 HI.out.2.2.1 HI.out.2.2.2 rfl (by decide) (.slice A k cp) k xs (HO.out.drew.alloc _) ⟨W.heap.size, 0, none⟩ 1 1 (gOf M) (by omega) (by exact HNw.out) (gOf_one HM.out.1) (by omega) (by unfold maxLen; omega) (by omega) (Nat.zero_le _) _ rfl
  replace hrun : Sem.run Tryd.prog (Builtin.append_ #[55, 55] 55 #[.slice A k cp, .slice (some ⟨W.heap.size, 0, none⟩) 1 1]) (W.alloc (.cells (gOf M).toArray 40)).drew = .ok (.slice (some ⟨g7, 0, none⟩) (k + 1) cap7) w7 := hrun
  have HB7 : Hid (Blk w7 n 57 M) := Lib.hid ((show Blk (W.drew.alloc (.cells (gOf M).toArray 40)) n 57 M from (HM.out.2.drewN 1).alloc _).grown hgrow7 (fun e => HN.out e.symm))
  have d30 := (HB7.out.cell 30).trans HV.out
  have g30 := HB7.out.frozen 30
  have HO7 := Lib.hid (And.intro hown7 (And.intro hgrow7 hat7))
  clear hown7 hgrow7 hat7
  go_region
  all_goals
    obtain ⟨hown7, hgrow7, hat7⟩ := HO7.out
    have hne7 : (Value.slice (some ⟨g7, 0, none⟩) (k + 1) cap7).ownBlock ≠ some n := fun e => by
      injection e with e
      have e : g7 = n := e
      rcases hat7 with h | h
      · exact HN.out (by rw [h, e])
      · have h : g7 = W.heap.size + 1 := by rw [h]; simp
        omega
    go_wp2
    go_end0
    refine ⟨rfl, _, HB7.out.set_ 30 _, rfl, hown7.kept (row := some n) (grown_set (World.grownBy.refl _ _) 30 _) (Or.inr hne7), hne7, ?_, ?_⟩
    · rcases hat7 with h | h
      · exact Or.inl h.symm
      · exact Or.inr ⟨g7, rfl, by rw [h]; simp⟩
    exact ((((Two.refl W n _).alloc _).drewN 1).grown hgrow7 (Or.inl rfl)).set_ 30 _
set_option maxRecDepth 100000 in
theorem change1_any (n : Nat) (M : Array Value) (v : Value) (k : Nat) (xs : List Value) (W : World) (A : Option Addr) (al ac : Nat) (hM : MOk M) (hv : M[30]? = some v) (hb : Blk W n 57 M) (ho : Saved W v k xs) (hk : k < 28) (hne : v.ownBlock ≠ some n) :
    Calls Tryd.prog 28 #[.pointer (some ⟨n, 0, none⟩), .slice A al ac] W fun e w' => e = .returned (.tuple #[]) ∧ ∃ v', Blk w' n 57 (putS M v') ∧ v'.oneCell' = true ∧ Saved w' v' (k + 1) (xs ++ gOf M) ∧ v'.ownBlock ≠ some n ∧ (v'.ownBlock = v.ownBlock ∨ ∃ g, v'.ownBlock = some g ∧ W.heap.size ≤ g) ∧ Two W w' n v.ownBlock := by
  have HS := Lib.hid (save_any n M v k xs W hM hv hb ho hk hne)
  clear hM hv hb ho hk hne
  go_enter Tryd.func28, Tryd.ntmps28
  go_wp2_with fail
  refine HS.out.mono ?_
  rintro e w1 ⟨rfl, h⟩
  go_wp2_with fail
  go_end0
  exact ⟨rfl, h⟩
end Go.Proofs.YtbagmjedkcipgaaDoor
