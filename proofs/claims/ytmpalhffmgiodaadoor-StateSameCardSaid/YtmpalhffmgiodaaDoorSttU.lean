/-
  The law StateSame: equality of any two states is as the document says.
-/
import Derived.Test.YtmpalhffmgiodaaDoorSttT
namespace Go.Proofs.YtmpalhffmgiodaaDoor
open Go.RowKit

set_option maxRecDepth 100000 in
set_option maxHeartbeats 4000000 in
theorem stateSame_far (g h : Nat → Int) (f k : ByteArray) (A B : Option Addr) (l m : List Int) (ca cb : Nat) (w : World) (hl : 100 < l.length ∨ 100 < m.length) (hsp : SpaceAt w) (hg : 0 < w.heap.size) :
    Calls Tryd.prog 3 #[.agg (gsC g f (.slice A l.length ca)), .agg (gsC h k (.slice B m.length cb))] w fun e w' => e = .returned (.bool true) ∧ Below w.heap.size w w' := by
  obtain ⟨p, hp⟩ : ∃ p, l.length = p := ⟨_, rfl⟩
  obtain ⟨q, hq⟩ : ∃ q, m.length = q := ⟨_, rfl⟩
  obtain ⟨V, hV⟩ : ∃ V, (w.alloc (.cells (gsC g f (.slice A p ca)) 30)).alloc (.cells (gsC h k (.slice B q cb)) 30) = V := ⟨_, rfl⟩
  have hBV : Below w.heap.size w V := by rw [← hV]; exact ((Below.refl _ w).alloc (Nat.le_refl _) _).alloc (by simp) _
  have ba : Blk V w.heap.size 30 (gsC g f (.slice A p ca)) := by rw [← hV]; exact (Blk.new w _ _).alloc _
  have bb : Blk V (w.heap.size + 1) 30 (gsC h k (.slice B q cb)) := by
    rw [← hV]
    have := Blk.new (w.alloc (.cells (gsC g f (.slice A p ca)) 30)) 30 (gsC h k (.slice B q cb))
    rw [World.size_alloc] at this
    exact this
  have HL := Lib.hid (lives_any V (hsp.below hBV hg) (Nat.lt_of_lt_of_le hg hBV.size))
  rw [hp, hq] at hl ⊢
  have HV := Lib.hid (And.intro hV (And.intro hBV (And.intro ba bb)))
  clear hV hBV ba bb hsp hg hp hq
  by_cases h1 : 100 < p
  · have h1I : (100 : Int) < (p : Int) := by omega
    clear hl
    unfold gsC at *
    go_enter Tryd.func3, Tryd.ntmps3
    go_upto_region 1 with fail
    rw [HV.out.1]
    have c10 := HV.out.2.2.1.cell 10
    go_wp2_with fail
    refine HL.out.mono ?_
    rintro e w1 ⟨rfl, hb⟩
    have HB := Lib.hid (HV.out.2.1.trans (hb.mono HV.out.2.1.size))
    clear hb c10
    go_wp2_with fail
    go_ret
    exact ⟨rfl, HB.out⟩
  · have h2 : 100 < q := by omega
    have h1I : ¬ (100 : Int) < (p : Int) := by omega
    have h2I : (100 : Int) < (q : Int) := by omega
    clear hl
    unfold gsC at *
    go_enter Tryd.func3, Tryd.ntmps3
    go_upto_region 1 with fail
    rw [HV.out.1]
    have c10 := HV.out.2.2.1.cell 10
    have d10 := HV.out.2.2.2.cell 10
    go_wp2_with fail
    refine HL.out.mono ?_
    rintro e w1 ⟨rfl, hb⟩
    have HB := Lib.hid (HV.out.2.1.trans (hb.mono HV.out.2.1.size))
    clear hb c10 d10
    go_wp2_with fail
    go_ret
    exact ⟨rfl, HB.out⟩
attribute [-go_sem] loadCells
set_option maxRecDepth 100000 in
set_option maxHeartbeats 8000000 in
theorem stateSame_near (g h : Nat → Int) (f k : ByteArray) (A B : Option Addr) (l m : List Int) (ca cb : Nat) (w : World) (hA : NAt w A l) (hB : NAt w B m) (hl : l.length ≤ 100) (hm : m.length ≤ 100) (hsp : SpaceAt w) (hg : 0 < w.heap.size) :
    Calls Tryd.prog 3 #[.agg (gsC g f (.slice A l.length ca)), .agg (gsC h k (.slice B m.length cb))] w fun e w' => e = .returned (.bool true) ∧ Below w.heap.size w w' := by
  obtain ⟨V, hV⟩ : ∃ V, (w.alloc (.cells (gsC g f (.slice A l.length ca)) 30)).alloc (.cells (gsC h k (.slice B m.length cb)) 30) = V := ⟨_, rfl⟩
  have hVs : V.heap.size = w.heap.size + 2 := by rw [← hV, World.size_alloc, World.size_alloc]
  have hBV : Below w.heap.size w V := by rw [← hV]; exact ((Below.refl _ w).alloc (Nat.le_refl _) _).alloc (by simp) _
  have ba : Blk V w.heap.size 30 (gsC g f (.slice A l.length ca)) := by rw [← hV]; exact (Blk.new w _ _).alloc _
  have bb : Blk V (w.heap.size + 1) 30 (gsC h k (.slice B m.length cb)) := by
    rw [← hV]
    have := Blk.new (w.alloc (.cells (gsC g f (.slice A l.length ca)) 30)) 30 (gsC h k (.slice B m.length cb))
    rw [World.size_alloc] at this
    exact this
  have hST : ∀ W W' : World, Below (w.heap.size + 2) V W → Below W.heap.size W W' → Below (w.heap.size + 2) V W' := fun W W' h1 h2 => h1.trans (h2.mono (by rw [← hVs]; exact h1.size))
  have hwW : ∀ W : World, Below (w.heap.size + 2) V W → Below w.heap.size w W := fun W h1 => hBV.trans (h1.mono (by omega))
  obtain ⟨z, hz⟩ : ∃ z, sameG g h f k l m = z := ⟨_, rfl⟩
  have C1 := Lib.hid (fun (W : World) (hW : Below (w.heap.size + 2) V W) => (gsame_any g h f k A B l m ca cb W (hA.below (hwW W hW)) (hB.below (hwW W hW)) (by omega)).mono fun e w' (h : _ ∧ _) => And.intro h.1 (hST W w' hW h.2))
  have C2 := Lib.hid (fun (W : World) (hW : Below (w.heap.size + 2) V W) => (refSame_any g h f k A B l m ca cb W (hA.below (hwW W hW)) (hB.below (hwW W hW)) (by omega)).mono fun e w' (h : _ ∧ _) => And.intro h.1 (hST W w' hW h.2))
  have C3 := Lib.hid (fun (W : World) (hW : Below (w.heap.size + 2) V W) => (gsame_any g g f f A A l l ca ca W (hA.below (hwW W hW)) (hA.below (hwW W hW)) (by omega)).mono fun e w' (h : _ ∧ _) => And.intro h.1 (hST W w' hW h.2))
  have C4 := Lib.hid (fun (W : World) (hW : Below (w.heap.size + 2) V W) => (lives_any W (hsp.below (hwW W hW) hg) (Nat.lt_of_lt_of_le hg (hwW W hW).size)).mono fun e w' (h : _ ∧ _) => And.intro h.1 (hST W w' hW h.2))
  rw [sameG_self] at C3
  rw [hz] at C1 C2
  have hsA : (gsC g f (.slice A l.length ca)).size = 30 := rfl
  have hsB : (gsC h k (.slice B m.length cb)).size = 30 := rfl
  have L1 : Hid (∀ W : World, Below (w.heap.size + 2) V W → (loadCells ⟨w.heap.size, 0, none⟩ 30).run Tryd.prog W = .ok (gsC g f (.slice A l.length ca)) W) := Lib.hid (fun W hW => ldg hsA (ba.below hW (by omega)))
  have L2 : Hid (∀ W : World, Below (w.heap.size + 2) V W → (loadCells ⟨w.heap.size + 1, 0, none⟩ 30).run Tryd.prog W = .ok (gsC h k (.slice B m.length cb)) W) := Lib.hid (fun W hW => ldg hsB (bb.below hW (by omega)))
  have HV := Lib.hid (And.intro hV (And.intro ba bb))
  have HWW := Lib.hid hwW
  obtain ⟨p, hp⟩ : ∃ p, l.length = p := ⟨_, rfl⟩
  obtain ⟨q, hq⟩ : ∃ q, m.length = q := ⟨_, rfl⟩
  rw [hp] at HV L1 C1 C2 C3 hl ⊢
  rw [hq] at HV L2 C1 C2 hm ⊢
  have h1I : ¬ (100 : Int) < (p : Int) := by omega
  have h2I : ¬ (100 : Int) < (q : Int) := by omega
  have c10 : V.cell? ⟨w.heap.size, 10, none⟩ = some (.slice A p ca) := (HV.out.2.1.cell 10).trans rfl
  have d10 : V.cell? ⟨w.heap.size + 1, 10, none⟩ = some (.slice B q cb) := (HV.out.2.2.cell 10).trans rfl
  obtain ⟨GA, hGA⟩ : ∃ GA, gsC g f (.slice A p ca) = GA := ⟨_, rfl⟩
  obtain ⟨GB, hGB⟩ : ∃ GB, gsC h k (.slice B q cb) = GB := ⟨_, rfl⟩
  rw [hGA] at HV L1 C1 C2 C3 ⊢
  rw [hGB] at HV L2 C1 C2 ⊢
  clear hA hB hl hm hsp hg hV ba bb hVs hBV hST hwW hp hq hz hsA hsB hGA hGB
  have C5 : Hid (∀ (W : World), Below (w.heap.size + 2) V W → ∀ (X : Array Value) (y : Bool), (X = GB ∧ y = z) ∨ (X = GA ∧ y = true) → Calls Tryd.prog 5 #[.agg GA, .agg X] W fun e w' => e = .returned (.bool y) ∧ Below (w.heap.size + 2) V w') := Lib.hid (fun W hW X y hX => by
    rcases hX with ⟨rfl, rfl⟩ | ⟨rfl, rfl⟩
    · exact C1.out W hW
    · exact C3.out W hW)
  clear C1 C3
  have hL1 := L1.out
  have hL2 := L2.out
  go_enter Tryd.func3, Tryd.ntmps3
  go_upto_region 1 with fail
  rw [HV.out.1]
  go_upto_region 3 with fail
  clear c10 d10 h1I h2I
  cases z with
  | true =>
    go_region_held3 (fun W => Below (w.heap.size + 2) V W) (first | assumption | exact below_drewN (Below.refl _ V) 1 | exact below_drewN (by assumption) 1 | fail) (first
      | (go_at_call 5; refine (C5.out _ (by assumption) _ _ (by first | exact Or.inl ⟨rfl, rfl⟩ | exact Or.inr ⟨rfl, rfl⟩)).mono ?_; rintro e w5 ⟨rfl, hb5⟩)
      | (go_at_call 6; refine (C2.out _ (by assumption)).mono ?_; rintro e w5 ⟨rfl, hb5⟩)
      | (go_at_call 4; refine (C4.out _ (by assumption)).mono ?_; rintro e w5 ⟨rfl, hb5⟩))
    all_goals
      go_wp2
      go_ret
      exact ⟨rfl, HWW.out _ (by assumption)⟩
  | false =>
    go_region_held3 (fun W => Below (w.heap.size + 2) V W) (first | assumption | exact below_drewN (Below.refl _ V) 1 | exact below_drewN (by assumption) 1 | fail) (first
      | (go_at_call 5; refine (C5.out _ (by assumption) _ _ (by first | exact Or.inl ⟨rfl, rfl⟩ | exact Or.inr ⟨rfl, rfl⟩)).mono ?_; rintro e w5 ⟨rfl, hb5⟩)
      | (go_at_call 6; refine (C2.out _ (by assumption)).mono ?_; rintro e w5 ⟨rfl, hb5⟩)
      | (go_at_call 4; refine (C4.out _ (by assumption)).mono ?_; rintro e w5 ⟨rfl, hb5⟩))
    all_goals
      go_wp2
      go_ret
      exact ⟨rfl, HWW.out _ (by assumption)⟩
end Go.Proofs.YtmpalhffmgiodaaDoor
