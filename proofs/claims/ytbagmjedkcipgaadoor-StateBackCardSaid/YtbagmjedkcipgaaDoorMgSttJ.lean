/-
  What the operator Q changes: the state that was saved last is taken back.
-/
import Derived.Test.YtbagmjedkcipgaaDoorMgSttI
namespace Go.Proofs.YtbagmjedkcipgaaDoor
open Go.RowKit
attribute [-go_sem] loadCells storeCells

/-- A row without its last element. -/
theorem own_cut {w : World} {base : Nat} {e : TypeId} {size g n cap : Nat} {xs ys : List Value} (h : w.ownsRow base e size (.slice (some ⟨g, 0, none⟩) (n + 1) cap) (n + 1) (xs ++ ys)) (hy : ys.length = size) :
    w.ownsRow base e size (.slice (some ⟨g, 0, none⟩) n cap) n xs := by
  obtain ⟨hl, hr⟩ := h
  have hx : xs.length = n * size := by rw [List.length_append, hy, Nat.add_mul] at hl; omega
  rcases hr with ⟨h, _⟩ | ⟨g', cap', cur, h, hb, hg, hc, hm, hs, ht⟩
  · cases h
  · injection h with h1 _ h2
    injection h1 with h1
    injection h1 with h1
    subst h1 h2
    refine ⟨hx, .inr ⟨g, cap, cur, rfl, hb, hg, by omega, hm, hs, ?_⟩⟩
    have : (cur.toList.take ((n + 1) * size)).take (n * size) = (xs ++ ys).take (n * size) := by rw [ht]
    rw [List.take_take, Nat.min_eq_left (Nat.mul_le_mul_right _ (by omega))] at this
    rw [this, ← hx, List.take_left]
theorem cells_set : ∀ (vs : List Value) (o : Nat) (w : World) {g : Nat} {t : TypeId} {cs : Array Value}, Blk w g t cs → o + vs.length ≤ cs.size → Blk (w.setCells g o vs) g t (cs.toList.take o ++ vs ++ cs.toList.drop (o + vs.length)).toArray
  | [], o, w, g, t, cs, h, _ => by simpa [World.setCells] using h
  | v :: vs, o, w, g, t, cs, h, hl => by
    simp only [List.length_cons] at hl
    have := cells_set vs (o + 1) _ (h.set_ o v) (by rw [Array.size_setIfInBounds]; omega)
    rw [World.setCells]
    have hk : o < cs.toList.length := by rw [Array.length_toList]; omega
    have e1 : ((cs.toList.set o v).take (o + 1)) = cs.toList.take o ++ [v] := by
      rw [List.take_succ_eq_append_getElem (by rw [List.length_set]; exact hk), List.getElem_set_self, List.take_set_of_le (Nat.le_refl _)]
    have e2 : (cs.toList.set o v).drop (o + 1 + vs.length) = cs.toList.drop (o + (vs.length + 1)) := by
      rw [List.drop_set_of_lt (by omega), show o + 1 + vs.length = o + (vs.length + 1) by omega]
    rw [Array.toList_setIfInBounds, e1, e2] at this
    simpa using this
theorem grown_set_ {a w : World} {g : Nat} (h : a.grownBy w (some g)) (i : Nat) (u : Value) : a.grownBy (w.setCell ⟨g, i, none⟩ u) (some g) := grown_set h i u
theorem Two.setCells_ {a : World} {g : Nat} {r : Option Nat} : ∀ (vs : List Value) (o : Nat) (w : World), Two a w g r → Two a (w.setCells g o vs) g r
  | [], _, _, h => h
  | v :: vs, o, w, h => by rw [World.setCells]; exact Two.setCells_ vs (o + 1) _ (h.set_ o v)
theorem run_st {w : World} {g : Nat} {t : TypeId} {cs : Array Value} (h : Blk w g t cs) (o : Nat) (vs : List Value) (hl : o + vs.length ≤ cs.size) (h1 : ∀ u ∈ vs, u.oneCell' = true) :
    (storeCells ⟨g, o, none⟩ vs 0).run Tryd.prog w = .ok () (w.setCells g o vs) := by
  have := run_storeCells_cells (P := Tryd.prog) g o vs 0 w (fun j hj => by rw [h.cell, Array.getElem?_eq_getElem (by omega)]; rfl) (fun j _ => h.frozen _) h1
  simpa using this
theorem sets_g {M : Array Value} (hM : MOk M) {G : List Value} (hG : G.length = 30) (v : Value) : ((M.toList.take 0 ++ G ++ M.toList.drop (0 + G.length)).toArray).setIfInBounds 30 v = mkM G v := by
  have h1 : (M.toList.drop 30).length = 1 := by rw [List.length_drop, Array.length_toList, hM.1]
  obtain ⟨u, hu⟩ : ∃ u, M.toList.drop 30 = [u] := by
    cases h : M.toList.drop 30 with
    | nil => rw [h] at h1; cases h1
    | cons u l => cases l with
      | nil => exact ⟨u, rfl⟩
      | cons _ _ => rw [h] at h1; simp at h1
  rw [hG, Nat.zero_add, hu]
  apply Array.ext'
  simp only [Array.toList_setIfInBounds, List.take_zero, List.nil_append, mkM]
  rw [List.set_append_right _ _ (by omega), hG]
  rfl

theorem sets_ok {M : Array Value} (hM : MOk M) {G : List Value} (hG : G.length = 30) (hG1 : ∀ u ∈ G, u.oneCell' = true) : MOk (M.toList.take 0 ++ G ++ M.toList.drop (0 + G.length)).toArray := by
  refine ⟨by simp [hG, hM.1], Array.all_eq_true_iff_forall_mem.2 fun u hu => ?_⟩
  simp only [List.mem_toArray, List.mem_append, List.take_zero, List.not_mem_nil, false_or] at hu
  rcases hu with h2 | h2
  · exact hG1 u h2
  · exact (Array.all_eq_true_iff_forall_mem.1 hM.2) u (by simpa using List.mem_of_mem_drop h2)
theorem grown_cells {a : World} {g : Nat} : ∀ (vs : List Value) (o : Nat) (w : World), a.grownBy w (some g) → a.grownBy (w.setCells g o vs) (some g)
  | [], _, _, h => h
  | v :: vs, o, w, h => by rw [World.setCells]; exact grown_cells vs (o + 1) _ (grown_set_ h o v)

set_option maxRecDepth 100000 in
theorem restore_none (n : Nat) (M : Array Value) (A : Option Addr) (cp : Nat) (W : World) (hv : M[30]? = some (.slice A 0 cp)) (hb : Blk W n 57 M) :
    Calls Tryd.prog 31 #[.pointer (some ⟨n, 0, none⟩)] W fun e w' => e = gUp 29 ∧ W = w' := by
  have c30 : W.cell? ⟨n, 30, none⟩ = some (.slice A 0 cp) := (hb.cell 30).trans hv
  go_enter Tryd.func31, Tryd.ntmps31
  go_wp2_with fail
  refine (up_any 29 _).mono ?_
  rintro e w' ⟨rfl, rfl⟩
  exact ⟨rfl, rfl, rfl⟩

set_option maxRecDepth 100000 in
set_option maxHeartbeats 4000000 in
theorem restore_any (n : Nat) (M : Array Value) (v : Value) (k : Nat) (xs G : List Value) (W : World) (hM : MOk M) (hv : M[30]? = some v) (hb : Blk W n 57 M) (ho : Saved W v (k + 1) (xs ++ G)) (hG : G.length = 30) (hG1 : ∀ u ∈ G, u.oneCell' = true) (hk : k < 28) (hne : v.ownBlock ≠ some n) :
    Calls Tryd.prog 31 #[.pointer (some ⟨n, 0, none⟩)] W fun e w' => e = .returned (.tuple #[]) ∧ ∃ v', Blk w' n 57 (mkM G v') ∧ v'.oneCell' = true ∧ Saved w' v' k xs ∧ v'.ownBlock = v.ownBlock ∧ Two W w' n none := by
  obtain ⟨A0, cp, rfl⟩ := own_form ho
  obtain ⟨b, rfl⟩ : ∃ b, A0 = some ⟨b, 0, none⟩ := by
    rcases ho.2 with ⟨h, _⟩ | ⟨g, _, _, h, _⟩
    · cases h
    · injection h with h1; exact ⟨g, h1⟩
  have hne' : b ≠ n := fun e => hne (by rw [← e]; rfl)
  have hxl : xs.length = k * 30 := by have := ho.1; rw [List.length_append, hG] at this; omega
  have c30 : W.cell? ⟨n, 30, none⟩ = some (.slice (some ⟨b, 0, none⟩) (k + 1) cp) := (hb.cell 30).trans hv
  have f30 : W.frozen? ⟨n, 30, none⟩ = false := hb.frozen 30
  have HL : Hid (∀ W', W'.ownsRow 0 40 30 (.slice (some ⟨b, 0, none⟩) (k + 1) cp) (k + 1) (xs ++ G) → (loadCells ⟨b, k * 30, none⟩ 30).run Tryd.prog W' = .ok G.toArray W') := Lib.hid (fun W' h => by
    have := run_loadCells_list (P := Tryd.prog) W' ⟨b, k * 30, none⟩ G (fun j u hu => by
      have hj : j < G.length := (List.getElem?_eq_some_iff.1 hu).1
      rw [Addr.add_mid, h.cellAt _ (by omega), List.getElem?_append_right (by omega), hxl, show k * 30 + j - k * 30 = j by omega]
      exact hu)
    rwa [hG] at this)
  have hkI : (k : Int) < 28 := by omega
  have hk0 : (0 : Int) ≤ (k : Int) := by omega
  have hcpN : k + 1 ≤ cp := by
    rcases ho.2 with ⟨h, _⟩ | ⟨g, cap', cur, h, _, _, hc, _⟩
    · cases h
    · injection h with _ _ h2; omega
  have hcp : (k : Int) + 1 ≤ (cp : Int) := by omega
  have HM := Lib.hid (And.intro hM hb)
  have HO := Lib.hid ho
  have HG := Lib.hid (And.intro hG hG1)
  clear hM ho hne hv hG1
  go_enter Tryd.func31, Tryd.ntmps31
  go_wp2_with fail
  have hG' := HG.out.1
  have HK : Hid (∀ (W' : World) (r : Option Nat), W.grownBy W' r → r = some n → W'.ownsRow 0 40 30 (.slice (some ⟨b, 0, none⟩) (k + 1) cp) (k + 1) (xs ++ G)) := Lib.hid (fun W' r h e => HO.out.kept h (Or.inr (fun e2 => hne' (by rw [e] at e2; injection e2))))
  have HB1 : Hid (∀ m, Blk ((W.drewN m).setCells n 0 G) n 57 (M.toList.take 0 ++ G ++ M.toList.drop (0 + G.length)).toArray) := Lib.hid (fun m => cells_set G 0 (W.drewN m) (HM.out.2.drewN m) (by rw [HM.out.1.1]; omega))
  have HB2 := Lib.hid (sets_ok HM.out.1 HG.out.1 HG.out.2)
  have HB3 : Hid (∀ m, Blk (((W.drewN m).setCells n 0 G).setCell ⟨n, 30, none⟩ (.slice (some ⟨b, 0, none⟩) k cp)) n 57 (mkM G (.slice (some ⟨b, 0, none⟩) k cp))) := Lib.hid (fun m => by
    have h := (HB1.out m).set_ 30 (.slice (some ⟨b, 0, none⟩) k cp)
    rwa [sets_g HM.out.1 HG.out.1] at h)
  have HB5 : Hid (∀ m, W.grownBy ((W.drewN m).setCells n 0 G) (some n)) := Lib.hid (fun m => grown_cells G 0 _ (grown_drewN (World.grownBy.refl _ _) m))
  have HB4 : Hid (MOk (mkM G (.slice (some ⟨b, 0, none⟩) k cp))) := Lib.hid (mkM_ok HG.out.1 HG.out.2 rfl)
  have hL1 := HL.out W HO.out
  have hL2 := HL.out W.drew HO.out.drew
  have hSt : (storeCells ⟨n, 0, none⟩ G).run Tryd.prog W.drew = .ok () (W.drew.setCells n 0 G) := run_st (HM.out.2.drewN 1) 0 G (by rw [HM.out.1.1]; omega) HG.out.2
  have hSu : (storeCells ⟨n, 30, none⟩ [.slice (some ⟨b, 0, none⟩) k cp]).run Tryd.prog (W.drew.setCells n 0 G) = .ok () ((W.drew.setCells n 0 G).setCell ⟨n, 30, none⟩ (.slice (some ⟨b, 0, none⟩) k cp)) :=
    run_st (HB1.out 1) 30 [_] (by rw [HB2.out.1]; exact Nat.le_refl 31) (by simp [Value.oneCell'])
  go_region
  all_goals
    go_wp2
    go_end0
    first | exact ⟨rfl, _, HB3.out 0, rfl, (own_cut (HK.out _ _ (grown_set_ (HB5.out 0) 30 _) rfl) HG.out.1), rfl, (Two.setCells_ G 0 _ ((Two.refl W n none).drewN 0)).set_ 30 _⟩ | exact ⟨rfl, _, HB3.out 1, rfl, (own_cut (HK.out _ _ (grown_set_ (HB5.out 1) 30 _) rfl) HG.out.1), rfl, (Two.setCells_ G 0 _ ((Two.refl W n none).drewN 1)).set_ 30 _⟩ | exact ⟨rfl, _, HB3.out 2, rfl, (own_cut (HK.out _ _ (grown_set_ (HB5.out 2) 30 _) rfl) HG.out.1), rfl, (Two.setCells_ G 0 _ ((Two.refl W n none).drewN 2)).set_ 30 _⟩ | exact ⟨rfl, _, HB3.out 3, rfl, (own_cut (HK.out _ _ (grown_set_ (HB5.out 3) 30 _) rfl) HG.out.1), rfl, (Two.setCells_ G 0 _ ((Two.refl W n none).drewN 3)).set_ 30 _⟩ | exact ⟨rfl, _, HB3.out 4, rfl, (own_cut (HK.out _ _ (grown_set_ (HB5.out 4) 30 _) rfl) HG.out.1), rfl, (Two.setCells_ G 0 _ ((Two.refl W n none).drewN 4)).set_ 30 _⟩
end Go.Proofs.YtbagmjedkcipgaaDoor
