/-
  The document's Unfive.
-/
import Derived.Test.YthioafndepkhoaaAscQ
namespace Go.Proofs.Ythioafndepkhoaa
open Go.RowKit Oct Asc Go.Shelf
attribute [-go_sem] Builtin.append_

/-- Two rows of the call's own lie apart. -/
def Apart2 (v u : Value) : Prop := (u.ownBlock = none ∨ u.ownBlock ≠ v.ownBlock) ∧ (v.ownBlock = none ∨ v.ownBlock ≠ u.ownBlock)
/-- The loop of the document's Unfive, at byte k. -/
def UvTo (N : Nat) (w : World) (m : Nat) (F : Int × List UInt8) (l : List UInt8) (k : Nat) (o ds : List UInt8) (v u : Value) (wr : World) : Prop :=
  wr.ownsRow N 5 1 v o.length (cellsOf o) ∧ wr.ownsRow N 5 1 u ds.length (cellsOf ds) ∧ Below N w wr ∧ F = fiveD m o ds (l.drop k) ∧ o.length ≤ m ∧ ds.length ≤ 4 ∧ Apart2 v u

/-- A byte is appended to a row of the call's own; another row of its own stays. -/
theorem app_on {N q : Nat} {A : Option Addr} {C : Nat} {o : List UInt8} (y : UInt8) (W : World) (hown : W.ownsRow N 5 1 (.slice A q C) q (cellsOf o)) (hN : N ≤ W.heap.size) (hqb : q ≤ 1000000) :
    ∃ g cap w2, Sem.run Try.prog (Builtin.append_ #[30, 30] 30 #[.slice A q C, .slice (some ⟨W.heap.size, 0, none⟩) 1 1]) (W.alloc (.cells #[.int .u8 (y.toNat : Int)] 5)) = .ok (.slice (some ⟨g, 0, none⟩) (q + 1) cap) w2 ∧
      w2.ownsRow N 5 1 (.slice (some ⟨g, 0, none⟩) (q + 1) cap) (q + 1) (cellsOf (o ++ [y])) ∧ Below N W w2 ∧
      ∀ v' n' xs', W.ownsRow N 5 1 v' n' xs' → (v'.ownBlock = none ∨ v'.ownBlock ≠ (Value.slice A q C).ownBlock) → w2.ownsRow N 5 1 v' n' xs' ∧ v'.ownBlock ≠ some g := by
  have hX := Blk.new W 5 #[.int .u8 (y.toNat : Int)]
  obtain ⟨g, cap, w2, hrun, h1, h2, h3⟩ := app_gen (N := N) (q := q) (K := W.heap.size) (k := 1) (c := 1) [y] (W.alloc (.cells #[.int .u8 (y.toNat : Int)] 5)) rfl (by decide) (fun j u hu => World.news_of_block hX j u hu) (hown.alloc _) (by rw [World.size_alloc]; omega) (by omega)
  exact ⟨g, cap, w2, hrun, h1, ((Below.refl N W).alloc hN _).trans h2, fun v' n' xs' h hne => h3 v' n' xs' (h.alloc _) hne⟩

/-- The four bytes of a number are appended. -/
theorem app_four {N q : Nat} {A : Option Addr} {C : Nat} {o : List UInt8} (V : Nat) (W : World) (hown : W.ownsRow N 5 1 (.slice A q C) q (cellsOf o)) (hN : N ≤ W.heap.size) (hqb : q ≤ 9000000) :
    ∃ g cap w2, Sem.run Try.prog (Builtin.append_ #[30, 30] 30 #[.slice A q C, .slice (some ⟨W.heap.size, 0, none⟩) 4 4]) (W.alloc (.cells (cellsOf (bytes4 V)).toArray 5)) = .ok (.slice (some ⟨g, 0, none⟩) (q + 4) cap) w2 ∧
      w2.ownsRow N 5 1 (.slice (some ⟨g, 0, none⟩) (q + 4) cap) (q + 4) (cellsOf (o ++ bytes4 V)) ∧ Below N W w2 := by
  have hX := Blk.new W 5 (cellsOf (bytes4 V)).toArray
  obtain ⟨g, cap, w2, hrun, h1, h2, h3⟩ := app_gen (N := N) (q := q) (K := W.heap.size) (k := 4) (c := 4) (bytes4 V) (W.alloc (.cells (cellsOf (bytes4 V)).toArray 5)) rfl (by decide) (fun j u hu => World.news_of_block hX j u hu) (hown.alloc _) (by rw [World.size_alloc]; omega) (by omega)
  exact ⟨g, cap, w2, hrun, h1, ((Below.refl N W).alloc hN _).trans h2⟩

set_option maxRecDepth 100000 in
set_option maxHeartbeats 8000000 in
theorem unfiveR_in (s : ByteArray) (n : Int) (m : Nat) (F : Int × List UInt8) (w : World) (hs : s.size ≤ 4000) (hn : 0 ≤ n) (hm : (min n 1048576).toNat = m) (hF : F = fiveD m [] [] s.data.toList) :
    Calls Try.prog 8 #[.string s, .int .i64 n] w (DecodedIs F w) := by
  have hmi : min n 1048576 = (m : Int) := by omega
  have hm2 : m ≤ 1048576 := by omega
  have hn0 : ¬ n < 0 := by omega
  have hl : s.data.toList.length = s.size := by simp
  obtain ⟨N, hN⟩ : ∃ N, w.heap.size = N := ⟨_, rfl⟩
  have HNW := Lib.hid hN
  have h0 := Lib.hid (show UvTo N w m F s.data.toList 0 [] [] (.slice none 0 0) (.slice none 0 0) w from ⟨World.ownsRow_nil _ _ _ _, World.ownsRow_nil _ _ _ _, by rw [← hN]; exact Below.refl _ _, hF, by simp, by simp, .inl rfl, .inl rfl⟩)
  have HL := Lib.hid hl
  unfold DecodedIs
  rw [hN]
  clear hF hl hN hm
  go_enter Try.func8, Try.ntmps8
  go_wp2_with fail
  go_loopw [6, 7, 8] (fun v u i wr => ∃ (k : Nat) (o ds : List UInt8), k ≤ s.size ∧ i = .int .i64 (k : Int) ∧ Hid (UvTo N w m F s.data.toList k o ds v u wr)) (fun _ _ i _ => s.size - (intOf i).toNat)
  case atStart => exact ⟨0, [], [], by omega, rfl, h0⟩
  case round =>
    clear h0
    obtain ⟨k, o, ds, hk, rfl, HU⟩ := hrel
    obtain ⟨g1, g2, g3, g4, g5, g6, g7⟩ := HU.out
    obtain ⟨A, C, hv⟩ := own_form g1
    obtain ⟨A', C', hu⟩ := own_form g2
    obtain ⟨q, hq⟩ : ∃ q, o.length = q := ⟨_, rfl⟩
    obtain ⟨p, hp⟩ : ∃ p, ds.length = p := ⟨_, rfl⟩
    rw [hq] at hv g1 g5
    rw [hp] at hu g2 g6
    subst hv hu
    have HO := Lib.hid g1
    have HDs := Lib.hid g2
    have HB := Lib.hid g3
    have HQ := Lib.hid hq
    have HP := Lib.hid hp
    have HA := Lib.hid g7
    clear g1 g2 g3 hq hp g7 HU
    by_cases hlt : k < s.size
    · have i0 : (0 : Int) ≤ (k : Int) := by omega
      have i1 : (k : Int) < (s.size : Int) := by omega
      obtain ⟨c, hc⟩ : ∃ c, s[k] = c := ⟨_, rfl⟩
      have hdrop : s.data.toList.drop k = c :: s.data.toList.drop (k + 1) := by
        rw [drop_at (by rw [HL.out]; exact hlt)]
        congr 1
      rw [hdrop] at g4
      clear hdrop
      have hN2 : N ≤ wr.heap.size := by have := HB.out.size; rw [HNW.out] at this; exact this
      have HN2 := Lib.hid hN2
      clear hN2
      by_cases hw : whiteS c = true
      · rw [fiveD_white _ hw] at g4
        have hN3 := Lib.hid (show UvTo N w m F s.data.toList (k + 1) o ds (.slice A q C) (.slice A' p C') wr from ⟨by rw [HQ.out]; exact HO.out, by rw [HP.out]; exact HDs.out, HB.out, g4, by rw [HQ.out]; exact g5, by rw [HP.out]; exact g6, HA.out⟩)
        have HC := Lib.hid (fun W : World => white_rb c true W hw)
        clear g4 hw
        go_wp2_with (go_at_call 19; refine (HC.out _).mono ?_; rintro e w' ⟨rfl, rfl⟩)
        go_roundw
        case rel => exact ⟨k + 1, o, ds, by omega, by go_num, hN3⟩
        case measure => simp [intOf]; omega
      · have hw : whiteS c = false := by simpa using hw
        have HC := Lib.hid (fun W : World => white_rb c false W hw)
        by_cases h126 : c = 126
        · subst h126
          have HC1 := Lib.hid (show ∀ W : World, Calls Try.prog 19 #[.int .u8 126] W (fun e w' => e = .returned (.bool false) ∧ W = w') from HC.out)
          clear HC hw
          have HC := HC1
          clear HC1
          by_cases hend : k + 1 = s.size
          · rw [List.drop_eq_nil_of_le (by rw [HL.out, hend]; exact Nat.le_refl _), fiveD_cut] at g4
            have HF := Lib.hid g4
            have he : (((k : Int) + 1) == (s.size : Int)) = true := by rw [← hend]; simp
            clear g4 hend
            go_wp2_with (go_at_call 19; refine (HC.out _).mono ?_; rintro e w' ⟨rfl, rfl⟩)
            go_ret2
            exact ⟨by rw [HF.out]; rfl, HB.out⟩
          · have he : (((k : Int) + 1) == (s.size : Int)) = false := beq_eq_false_iff_ne.2 (fun e => hend (by omega))
            have hlt2 : k + 1 < s.size := by omega
            obtain ⟨d, hd⟩ : ∃ d, s[k + 1] = d := ⟨_, rfl⟩
            have hdrop : s.data.toList.drop (k + 1) = d :: s.data.toList.drop (k + 1 + 1) := by
              rw [drop_at (by rw [HL.out]; exact hlt2)]
              congr 1
            rw [hdrop, fiveD_end] at g4
            clear hdrop
            have i2 : (0 : Int) ≤ (k : Int) + 1 := by omega
            have i3 : (k : Int) + 1 < (s.size : Int) := by omega
            by_cases h62 : d = 62
            · have HLast := Lib.hid (lastR_in N m o ds q p A A' C C' F wr w HQ.out HP.out g6 g5 hm2 (g4.trans (if_pos h62)) HB.out HN2.out HO.out HDs.out)
              have hd62 : ((d.toNat : Int) == 62) = true := by rw [h62]; rfl
              clear g4 h62 hend
              go_wp2_with (first | (go_at_call 19; refine (HC.out _).mono ?_; rintro e w' ⟨rfl, rfl⟩) | (go_at_call 22; refine HLast.out.mono ?_; rintro e w' ⟨rfl, hb⟩))
              go_ret2
              exact ⟨rfl, hb⟩
            · have HF := Lib.hid (g4.trans (if_neg h62))
              have hd62 : ((d.toNat : Int) == 62) = false := asc_ne h62
              clear g4 h62 hend
              go_wp2_with (go_at_call 19; refine (HC.out _).mono ?_; rintro e w' ⟨rfl, rfl⟩)
              go_ret2
              exact ⟨by rw [HF.out]; rfl, HB.out⟩
        · have h126' : ((c.toNat : Int) == 126) = false := asc_ne h126
          by_cases hz : c = 122
          · subst hz
            have HC1 := Lib.hid (show ∀ W : World, Calls Try.prog 19 #[.int .u8 122] W (fun e w' => e = .returned (.bool false) ∧ W = w') from HC.out)
            clear HC h126'
            have HC := HC1
            clear HC1
            by_cases hpz : ds = []
            · obtain rfl : p = 0 := by rw [← HP.out, hpz]; rfl
              rw [hpz, fiveD_zeros] at g4
              have HBy := Lib.hid (show ∀ W : World, Calls Try.prog 24 #[.int .u64 0, .int .i64 4] W (fun e w' => e = .returned (.slice (some ⟨W.heap.size, 0, none⟩) 4 4) ∧ w' = W.alloc (.cells (cellsOf (bytes4 0)).toArray 5)) from fun W => bytesR_in 0 4 W (by decide) (by decide))
              by_cases hfull : m < o.length + 4
              · have HF := Lib.hid (g4.trans (if_pos hfull))
                have hq4 : (m : Int) - (q : Int) < 4 := by have := HQ.out; omega
                clear g4 hw h126 hpz hfull
                go_wp2_with (go_at_call 19; refine (HC.out _).mono ?_; rintro e w' ⟨rfl, rfl⟩)
                go_ret2
                exact ⟨by rw [HF.out]; rfl, HB.out⟩
              · have hF := g4.trans (if_neg hfull)
                have hq4 : ¬ (m : Int) - (q : Int) < 4 := by have := HQ.out; omega
                obtain ⟨g, cap, w3, hrun, hown3, hb3⟩ := app_four 0 wr HO.out HN2.out (by omega)
                have hlen : (o ++ bytes4 0).length = q + 4 := by rw [List.length_append, HQ.out]; rfl
                have hN3 := Lib.hid (show UvTo N w m F s.data.toList (k + 1) (o ++ bytes4 0) [] (.slice (some ⟨g, 0, none⟩) (q + 4) cap) (.slice none 0 0) w3 from ⟨by rw [hlen]; exact hown3, World.ownsRow_nil _ _ _ _, HB.out.trans hb3, hF, by rw [hlen]; have := HQ.out; omega, by simp, .inl rfl, .inr (by simp [Value.ownBlock])⟩)
                clear g4 hw h126 hpz hfull hF hown3 hb3 hlen
                go_wp2_with (first | (go_at_call 19; refine (HC.out _).mono ?_; rintro e w' ⟨rfl, rfl⟩) | (go_at_call 24; refine (HBy.out _).mono ?_; rintro e w' ⟨rfl, rfl⟩))
                go_roundw
                case rel => exact ⟨k + 1, _, [], by omega, by go_num, hN3⟩
                case measure => simp [intOf]; omega
            · have hp0 : (0 : Int) < (p : Int) := by
                have : ds.length ≠ 0 := fun e => hpz (List.eq_nil_of_length_eq_zero e)
                have := HP.out
                omega
              rw [fiveD_bad _ hw (by decide) (fun e => hpz e.2) (by decide)] at g4
              have HF := Lib.hid g4
              clear g4 hw h126 hpz
              go_wp2_with (go_at_call 19; refine (HC.out _).mono ?_; rintro e w' ⟨rfl, rfl⟩)
              go_ret2
              exact ⟨by rw [HF.out]; rfl, HB.out⟩
          · have hz' : ((c.toNat : Int) == 122) = false := asc_ne hz
            by_cases h33 : c.toNat < 33
            · rw [fiveD_bad _ hw h126 (fun e => hz e.1) (by omega)] at g4
              have HF := Lib.hid g4
              have hi33 : (c.toNat : Int) < 33 := by omega
              clear g4 hw h126 hz h33
              go_wp2_with (go_at_call 19; refine (HC.out _).mono ?_; rintro e w' ⟨rfl, rfl⟩)
              go_ret2
              exact ⟨by rw [HF.out]; rfl, HB.out⟩
            · have hi33 : ¬ (c.toNat : Int) < 33 := by omega
              by_cases h117 : 117 < c.toNat
              · rw [fiveD_bad _ hw h126 (fun e => hz e.1) (by omega)] at g4
                have HF := Lib.hid g4
                have hi117 : (117 : Int) < (c.toNat : Int) := by omega
                have hz2 : ¬ (c.toNat : Int) = 122 := ne_of_beq_false hz'
                clear g4 hw h126 hz h33 h117
                go_wp2_with (go_at_call 19; refine (HC.out _).mono ?_; rintro e w' ⟨rfl, rfl⟩)
                go_ret2
                exact ⟨by rw [HF.out]; rfl, HB.out⟩
              · have hi117 : ¬ (117 : Int) < (c.toNat : Int) := by omega
                rw [fiveD_digit _ (by omega) (by omega)] at g4
                have hy : (((c - 33).toNat : Nat) : Int) = (c.toNat : Int) - 33 := by
                  rw [UInt8.toNat_sub_of_le _ _ (by rw [UInt8.le_iff_toNat_le]; show 33 ≤ c.toNat; omega)]
                  show ((c.toNat - 33 : Nat) : Int) = _
                  omega
                obtain ⟨g, cap, w3, hrun, hown3, hb3, hkeep⟩ := app_on (c - 33) wr HDs.out HN2.out (by omega)
                obtain ⟨hout3, hg3⟩ := hkeep _ _ _ HO.out HA.out.2
                rw [hy] at hrun
                have hlen : (ds ++ [c - 33]).length = p + 1 := by rw [List.length_append, HP.out]; rfl
                have HB3 := Lib.hid (HB.out.trans hb3)
                by_cases hfew : ds.length < 4
                · have hF := g4.trans (if_pos hfew)
                  have hp4 : (p : Int) + 1 < 5 := by have := HP.out; omega
                  have hN3 := Lib.hid (show UvTo N w m F s.data.toList (k + 1) o (ds ++ [c - 33]) (.slice A q C) (.slice (some ⟨g, 0, none⟩) (p + 1) cap) w3 from ⟨by rw [HQ.out]; exact hout3, by rw [hlen]; exact hown3, HB3.out, hF, by rw [HQ.out]; exact g5, by rw [hlen]; have := HP.out; omega, .inr (fun e => hg3 e.symm), .inr hg3⟩)
                  clear g4 hw h126 hz h33 h117 hfew hF hown3 hb3 hkeep hout3 hg3 hlen hy
                  go_wp2_with (go_at_call 19; refine (HC.out _).mono ?_; rintro e w' ⟨rfl, rfl⟩)
                  go_roundw
                  case rel => exact ⟨k + 1, o, _, by omega, by go_num, hN3⟩
                  case measure => simp [intOf]; omega
                · have hF := g4.trans (if_neg hfew)
                  have hp4e : p = 4 := by have := HP.out; omega
                  subst hp4e
                  obtain ⟨V, hV⟩ : ∃ V, val5 (ds ++ [c - 33]) = V := ⟨_, rfl⟩
                  rw [hV] at hF
                  have HVal := Lib.hid (value_in (ds ++ [c - 33]) 5 _ _ V N w3 hlen (by rw [hlen]; decide) hV hown3)
                  by_cases hbig : 4294967295 < V
                  · have HF := Lib.hid (hF.trans (if_pos hbig))
                    have hbi : (4294967295 : Int) < (V : Int) := by omega
                    clear g4 hw h126 hz h33 h117 hfew hF hown3 hb3 hkeep hout3 hg3 hlen hy hbig hV
                    go_wp2_with (first | (go_at_call 19; refine (HC.out _).mono ?_; rintro e w' ⟨rfl, rfl⟩) | (go_at_call 23; refine HVal.out.mono ?_; rintro e w' ⟨rfl, rfl⟩))
                    go_ret2
                    exact ⟨by rw [HF.out]; rfl, HB3.out⟩
                  · have hF2 := hF.trans (if_neg hbig)
                    have hbi : ¬ (4294967295 : Int) < (V : Int) := by omega
                    have HBy := Lib.hid (show ∀ W : World, Calls Try.prog 24 #[.int .u64 (V : Int), .int .i64 4] W (fun e w' => e = .returned (.slice (some ⟨W.heap.size, 0, none⟩) 4 4) ∧ w' = W.alloc (.cells (cellsOf (bytes4 V)).toArray 5)) from fun W => bytesR_in V 4 W (by omega) (by decide))
                    by_cases hfull : m < o.length + 4
                    · have HF := Lib.hid (hF2.trans (if_pos hfull))
                      have hq4 : (m : Int) - (q : Int) < 4 := by have := HQ.out; omega
                      clear g4 hw h126 hz h33 h117 hfew hF hF2 hown3 hb3 hkeep hout3 hg3 hlen hy hbig hV hfull
                      go_wp2_with (first | (go_at_call 19; refine (HC.out _).mono ?_; rintro e w' ⟨rfl, rfl⟩) | (go_at_call 23; refine HVal.out.mono ?_; rintro e w' ⟨rfl, rfl⟩))
                      go_ret2
                      exact ⟨by rw [HF.out]; rfl, HB3.out⟩
                    · have hF3 := hF2.trans (if_neg hfull)
                      have hq4 : ¬ (m : Int) - (q : Int) < 4 := by have := HQ.out; omega
                      have hN4 : N ≤ w3.heap.size := by have := HB3.out.size; rw [HNW.out] at this; exact this
                      obtain ⟨g', cap', w4, hrun4, hown4, hb4⟩ := app_four V w3 hout3 hN4 (by omega)
                      have hlen4 : (o ++ bytes4 V).length = q + 4 := by rw [List.length_append, HQ.out]; rfl
                      have hN3 := Lib.hid (show UvTo N w m F s.data.toList (k + 1) (o ++ bytes4 V) [] (.slice (some ⟨g', 0, none⟩) (q + 4) cap') (.slice none 0 0) w4 from ⟨by rw [hlen4]; exact hown4, World.ownsRow_nil _ _ _ _, HB3.out.trans hb4, hF3, by rw [hlen4]; have := HQ.out; omega, by simp, .inl rfl, .inr (by simp [Value.ownBlock])⟩)
                      clear g4 hw h126 hz h33 h117 hfew hF hF2 hF3 hown3 hb3 hkeep hout3 hg3 hlen hy hbig hV hfull hN4 hown4 hb4 hlen4
                      go_wp2_with (first | (go_at_call 19; refine (HC.out _).mono ?_; rintro e w' ⟨rfl, rfl⟩) | (go_at_call 23; refine HVal.out.mono ?_; rintro e w' ⟨rfl, rfl⟩) | (go_at_call 24; refine (HBy.out _).mono ?_; rintro e w' ⟨rfl, rfl⟩))
                      go_roundw
                      case rel => exact ⟨k + 1, _, [], by omega, by go_num, hN3⟩
                      case measure => simp [intOf]; omega
    · obtain rfl : k = s.size := by omega
      rw [List.drop_eq_nil_of_le (by rw [HL.out]; exact Nat.le_refl _), fiveD_nil] at g4
      have HF := Lib.hid g4
      clear g4
      go_wp2_with fail
      go_ret2
      exact ⟨by rw [HF.out]; rfl, HB.out⟩
end Go.Proofs.Ythioafndepkhoaa
