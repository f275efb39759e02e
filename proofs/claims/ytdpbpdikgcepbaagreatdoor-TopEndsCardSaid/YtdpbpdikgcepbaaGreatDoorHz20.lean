/-
  Lemmas and walks, joined: LexW, LexX, LexXA, LexXB, LexXC, LexXD, LexXE, LexXF, LexY.
-/
import Derived.Test.YtdpbpdikgcepbaaGreatDoorHz14
import Derived.Test.YtdpbpdikgcepbaaGreatDoorHz19
import Derived.Test.YtdpbpdikgcepbaaGreatDoorHz17
import Derived.Test.YtdpbpdikgcepbaaGreatDoorHz16
namespace Go.Proofs.YtdpbpdikgcepbaaGreatDoor
open Go.RowKit Oct Fix Lex

theorem str_cells (b : ByteArray) : Lib.strCells b = cellsOf b.data.toList := by
  unfold Lib.strCells cellsOf
  first | rfl | rw [Lib.toList_data]
theorem escB_size (s : ByteArray) (a : Nat) : (escB s a).size = (escL (s.data.toList.drop a)).1.length := rfl

set_option maxRecDepth 100000 in
set_option maxHeartbeats 16000000 in
theorem text_rany (s : ByteArray) (a : Nat) (b : Int) (R : TR) (w : World) (h : a < s.size) (hs : s.size ≤ 3000000000) (hb : b = (a : Int) + 1) (hR : litR (s.data.toList.drop (a + 1)) = R) :
    Calls Tryz.prog 74 #[.string s, .int .i64 b] w (TxtEnd a R w) := by
  subst hb
  obtain ⟨i5, hi, hz0, hz1, hz2⟩ := info_parts info5
  have HR := Lib.hid hR
  clear hR
  go_enter Tryz.func74, Tryz.ntmps74
  go_wp2_with fail
  go_loopw [1, 7, 8] (fun i v dp wr => ∃ (k p d f : Nat) (out : List UInt8) (A : Option Addr) (C : Nat), a + 1 + k = p ∧ p ≤ s.size ∧ i = .int .i64 (p : Int) ∧ dp = .int .i64 (d : Int) ∧ 1 ≤ d ∧ d ≤ k + 1 ∧ v = .slice A out.length C ∧ LitAt (s.data.toList.drop (a + 1)) k out d f ∧ out.length ≤ k ∧ wr.ownsRow w.heap.size 5 1 (.slice A out.length C) out.length (cellsOf out) ∧ Below w.heap.size w wr) (fun i _ _ _ => s.size - (intOf i).toNat)
  case atStart => exact ⟨0, a + 1, 1, _, [], none, 0, by omega, by omega, by go_num, rfl, by omega, by omega, rfl, LitAt.zero _, Nat.le_refl _, World.ownsRow_nil _ _ _ _, Below.refl _ _⟩
  case round =>
    obtain ⟨k, p, d, f, out, A, C, hp, hk, rfl, rfl, hd1, hdk, rfl, hd, hol, hown, hb⟩ := hrel
    have hkp : k ≤ p := by omega
    have hap : a + 1 ≤ p := by omega
    have hbs := hb.size
    have HD := Lib.hid hd
    have HO := Lib.hid hown
    have HP := Lib.hid hp
    have HB := Lib.hid hb
    clear hd hown hb hp
    by_cases hlt : p < s.size
    · obtain ⟨d1, d2, d3⟩ := drop_p HP.out hlt
      have d4 := drop_cons s p hlt
      rw [d4] at d3
      by_cases h1 : s[p] = 92
      · have b92 : ((s[p].toNat : Int) == 92) = true := by rw [h1]; rfl
        by_cases hl : p + 1 < s.size
        · have l1 : ¬ (s.size : Int) ≤ (p : Int) + 1 := by omega
          obtain ⟨g, N⟩ := HD.out.step d1 (n := 1 + (escL (s.data.toList.drop (p + 1))).2) (m := (escL (s.data.toList.drop (p + 1))).1) (d' := d) (by omega) (fun g => by rw [d3]; exact lit_back_any h1)
          have hcall := escape_rany s p wr (by omega) hl
          have hel := esc_le (s.data.toList.drop (p + 1))
          rw [List.length_drop, show s.data.toList.length = s.size from by simp] at hel
          have heo := esc_one (s.data.toList.drop (p + 1))
          obtain ⟨B, hB⟩ : ∃ B, escB s (p + 1) = B := ⟨_, rfl⟩
          obtain ⟨q, hq⟩ : ∃ q, escP s (p + 1) = q := ⟨_, rfl⟩
          have hq2 : q = p + 1 + (escL (s.data.toList.drop (p + 1))).2 := hq.symm
          have hBl : B.data.toList = (escL (s.data.toList.drop (p + 1))).1 := by rw [← hB]; rfl
          have hBs : B.size ≤ 1 := by rw [← hB, escB_size]; exact heo
          unfold EscEnd at hcall
          rw [hB, hq] at hcall
          rw [← hBl] at N heo
          have hqn : 1 + (escL (s.data.toList.drop (p + 1))).2 = q - p := by omega
          rw [hqn] at N
          have hqs : q ≤ s.size := by omega
          have hqp : p < q := by omega
          have NN := Lib.hid N
          have HC := Lib.hid hcall
          clear d2 d3 d4 h1 hcall N hB hq hq2 hBl hel hqn heo
          go_wp2_with fail
          refine HC.out.mono ?_
          rintro e w2 ⟨rfl, hb2⟩
          have hbs2 := hb2.size
          have ho2 := HO.out.kept (w' := w2) (row := none) ⟨hb2.os, hb2.tape, hb2.output, hb2.size, fun i hi _ => hb2.block i hi⟩ (by cases A <;> simp [Value.ownBlock])
          have HO2 := Lib.hid ho2
          have HB2 := Lib.hid (HB.out.trans (hb2.mono hbs))
          clear hb2 ho2
          go_wp2_with (at_builtin; refine wpList_append_string_at _ rfl _ _ _ _ rfl w.heap.size 5 i5 Tryz.underlying60 Tryz.underlying9 hi hz0 hz1 hz2 (.slice A out.length C) out.length (cellsOf out) rfl HO2.out B rfl (by unfold maxLen; omega) (by omega) (by omega) ?_)
          intro v3 w3 hown3 hgrow3 _
          obtain ⟨A3, C3, rfl⟩ := own_form hown3
          go_wp2
          go_roundw
          case rel => exact ⟨k + (q - p), q, d, g, out ++ B.data.toList, A3, C3, by have := HP.out; omega, hqs, rfl, rfl, hd1, by omega, by simp, NN.out, by rw [List.length_append]; simp; omega, by rw [cellsOf_append, ← str_cells, List.length_append]; simpa using hown3, HB2.out.grown hgrow3 (by omega) (fun g h => (HO2.out.lt g h).1)⟩
          case measure => simp [intOf]; omega
        · have l1 : (s.size : Int) ≤ (p : Int) + 1 := by omega
          have E : litL (s.data.toList.drop (a + 1)).length 1 (s.data.toList.drop (a + 1)) = none := by
            obtain ⟨e1, e2⟩ := HD.out
            obtain ⟨f', rfl⟩ : ∃ f', f = f' + 1 := ⟨f - 1, by omega⟩
            rw [e1, d3, List.drop_eq_nil_of_le (by simp; omega), lit_cut h1]
            rfl
          have hr := Lib.hid ((litR_none E).symm.trans HR.out)
          clear d2 d3 d4 h1 E
          go_wp2_with fail
          go_ret3
          exact txt_bad hr.out.symm (by decide) HB.out
      · have b92 : ((s[p].toNat : Int) == 92) = false := byte_isnt (n := 92) (by decide) h1
        by_cases h2 : s[p] = 13 ∨ s[p] = 10
        · obtain ⟨g, N⟩ := HD.out.step d1 (n := lineN (s.data.toList.drop p)) (m := [10]) (d' := d) (by rw [d4]; exact lineN_pos _ _) (fun g => by rw [d3, ← d4]; have := lit_line (f := g) (d := d) (t := s.data.toList.drop (p + 1)) h2; rw [← d4] at this; exact this)
          have b40 : ((s[p].toNat : Int) == 40) = false := by rcases h2 with h2 | h2 <;> (rw [h2]; rfl)
          have b41 : ((s[p].toNat : Int) == 41) = false := by rcases h2 with h2 | h2 <;> (rw [h2]; rfl)
          by_cases h3 : s[p] = 13
          · have b13 : ((s[p].toNat : Int) == 13) = true := by rw [h3]; rfl
            by_cases hl : p + 1 < s.size
            · have l1 : (p : Int) + 1 < (s.size : Int) := by omega
              have l2 : (0 : Int) ≤ (p : Int) + 1 := by omega
              have d5 := drop_cons s (p + 1) hl
              by_cases h4 : s[p + 1] = 10
              · have b10 : ((s[p + 1].toNat : Int) == 10) = true := by rw [h4]; rfl
                have en : lineN (s.data.toList.drop p) = 2 := by rw [d4, d5, h3, h4]; rfl
                rw [en] at N
                have NN := Lib.hid N
                clear d2 d3 d4 d5 h1 h2 h3 h4 N en
                go_wp2_with (first | (at_builtin; refine wpList_append_own _ rfl _ _ 60 rfl w.heap.size 5 i5 (.int .u8 0) 1 1 Tryz.underlying60 hi hz0 hz1 hz2 rfl (by decide) _ _ _ rfl (HO.out.alloc _) ⟨wr.heap.size, 0, none⟩ 1 1 [.int .u8 10] rfl rfl (World.news_of_block (heap_alloc_new wr _)) (by simp [Value.oneCell']) (by unfold maxLen; omega) (by omega) (by simp; omega) ?_))
                intro v3 w3 hown3 hgrow3
                intros
                obtain ⟨A3, C3, rfl⟩ := own_form hown3
                go_wp2
                go_roundw
                case rel => exact ⟨k + 2, p + 2, d, g, out ++ [10], A3, C3, by have := HP.out; omega, by omega, by go_num, rfl, by omega, by omega, by simp, NN.out, by simp; omega, by have := cells_snoc out 10; rw [List.length_append]; rw [← this]; exact hown3, (HB.out.alloc (by omega) _).grown hgrow3 (by simp; omega) (fun g h => (HO.out.lt g h).1)⟩
                case measure => simp [intOf]; omega
              · have b10 : ((s[p + 1].toNat : Int) == 10) = false := byte_isnt (n := 10) (by decide) h4
                have en : lineN (s.data.toList.drop p) = 1 := by rw [d4, d5, h3]; unfold lineN; rw [if_neg (fun h => h4 h.2)]; rfl
                rw [en] at N
                have NN := Lib.hid N
                clear d2 d3 d4 d5 h1 h2 h3 h4 N en
                go_wp2_with (first | (at_builtin; refine wpList_append_own _ rfl _ _ 60 rfl w.heap.size 5 i5 (.int .u8 0) 1 1 Tryz.underlying60 hi hz0 hz1 hz2 rfl (by decide) _ _ _ rfl (HO.out.alloc _) ⟨wr.heap.size, 0, none⟩ 1 1 [.int .u8 10] rfl rfl (World.news_of_block (heap_alloc_new wr _)) (by simp [Value.oneCell']) (by unfold maxLen; omega) (by omega) (by simp; omega) ?_))
                intro v3 w3 hown3 hgrow3
                intros
                obtain ⟨A3, C3, rfl⟩ := own_form hown3
                go_wp2
                go_roundw
                case rel => exact ⟨k + 1, p + 1, d, g, out ++ [10], A3, C3, by have := HP.out; omega, by omega, by go_num, rfl, by omega, by omega, by simp, NN.out, by simp; omega, by have := cells_snoc out 10; rw [List.length_append]; rw [← this]; exact hown3, (HB.out.alloc (by omega) _).grown hgrow3 (by simp; omega) (fun g h => (HO.out.lt g h).1)⟩
                case measure => simp [intOf]; omega
            · have l1 : ¬ (p : Int) + 1 < (s.size : Int) := by omega
              have en : lineN (s.data.toList.drop p) = 1 := by rw [d4, h3, List.drop_eq_nil_of_le (by simp; omega)]; rfl
              rw [en] at N
              have NN := Lib.hid N
              clear d2 d3 d4 h1 h2 h3 N en
              go_wp2_with (first | (at_builtin; refine wpList_append_own _ rfl _ _ 60 rfl w.heap.size 5 i5 (.int .u8 0) 1 1 Tryz.underlying60 hi hz0 hz1 hz2 rfl (by decide) _ _ _ rfl (HO.out.alloc _) ⟨wr.heap.size, 0, none⟩ 1 1 [.int .u8 10] rfl rfl (World.news_of_block (heap_alloc_new wr _)) (by simp [Value.oneCell']) (by unfold maxLen; omega) (by omega) (by simp; omega) ?_))
              intro v3 w3 hown3 hgrow3
              intros
              obtain ⟨A3, C3, rfl⟩ := own_form hown3
              go_wp2
              go_roundw
              case rel => exact ⟨k + 1, p + 1, d, g, out ++ [10], A3, C3, by have := HP.out; omega, by omega, by go_num, rfl, by omega, by omega, by simp, NN.out, by simp; omega, by have := cells_snoc out 10; rw [List.length_append]; rw [← this]; exact hown3, (HB.out.alloc (by omega) _).grown hgrow3 (by simp; omega) (fun g h => (HO.out.lt g h).1)⟩
              case measure => simp [intOf]; omega
          · have b13 : ((s[p].toNat : Int) == 13) = false := byte_isnt (n := 13) (by decide) h3
            have h4 : s[p] = 10 := by rcases h2 with h2 | h2; · exact absurd h2 h3
                                      · exact h2
            have en : lineN (s.data.toList.drop p) = 1 := by rw [d4, h4]; cases s.data.toList.drop (p + 1) <;> rfl
            rw [en] at N
            have ec : (s[p].toNat : Int) = 10 := by rw [h4]; rfl
            have EC := Lib.hid ec
            have NN := Lib.hid N
            clear d2 d3 d4 h1 h2 h3 h4 N en ec
            go_wp2_with (first | (at_builtin; refine wpList_append_own _ rfl _ _ 60 rfl w.heap.size 5 i5 (.int .u8 0) 1 1 Tryz.underlying60 hi hz0 hz1 hz2 rfl (by decide) _ _ _ rfl (HO.out.alloc _) ⟨wr.heap.size, 0, none⟩ 1 1 [.int .u8 (s[p].toNat : Int)] rfl rfl (World.news_of_block (heap_alloc_new wr _)) (by simp [Value.oneCell']) (by unfold maxLen; omega) (by omega) (by simp; omega) ?_))
            intro v3 w3 hown3 hgrow3
            intros
            obtain ⟨A3, C3, rfl⟩ := own_form hown3
            go_wp2
            go_roundw
            case rel => exact ⟨k + 1, p + 1, d, g, out ++ [10], A3, C3, by have := HP.out; omega, by omega, by go_num, rfl, by omega, by omega, by simp, NN.out, by simp; omega, by have := cells_snoc out 10; rw [List.length_append]; rw [← this]; rw [EC.out] at hown3; exact hown3, (HB.out.alloc (by omega) _).grown hgrow3 (by simp; omega) (fun g h => (HO.out.lt g h).1)⟩
            case measure => simp [intOf]; omega
        · have b13 : ((s[p].toNat : Int) == 13) = false := byte_isnt (n := 13) (by decide) (fun e => h2 (.inl e))
          by_cases h3 : s[p] = 40
          · have b40 : ((s[p].toNat : Int) == 40) = true := by rw [h3]; rfl
            have b41 : ((s[p].toNat : Int) == 41) = false := by rw [h3]; rfl
            obtain ⟨g, N⟩ := HD.out.step d1 (n := 1) (m := [s[p]]) (d' := d + 1) (by omega) (fun g => by rw [d3]; exact (lit_open h3).trans (by rw [h3]; rfl))
            have NN := Lib.hid N
            clear d2 d3 d4 h1 h2 h3 N
            go_wp2_with (first | (at_builtin; refine wpList_append_own _ rfl _ _ 60 rfl w.heap.size 5 i5 (.int .u8 0) 1 1 Tryz.underlying60 hi hz0 hz1 hz2 rfl (by decide) _ _ _ rfl (HO.out.alloc _) ⟨wr.heap.size, 0, none⟩ 1 1 [.int .u8 (s[p].toNat : Int)] rfl rfl (World.news_of_block (heap_alloc_new wr _)) (by simp [Value.oneCell']) (by unfold maxLen; omega) (by omega) (by simp; omega) ?_))
            intro v3 w3 hown3 hgrow3
            intros
            obtain ⟨A3, C3, rfl⟩ := own_form hown3
            go_wp2
            go_roundw
            case rel => exact ⟨k + 1, p + 1, d + 1, g, out ++ [s[p]], A3, C3, by have := HP.out; omega, by omega, by go_num, by go_num, by omega, by omega, by simp, NN.out, by simp; omega, by have := cells_snoc out s[p]; rw [List.length_append]; rw [← this]; exact hown3, (HB.out.alloc (by omega) _).grown hgrow3 (by simp; omega) (fun g h => (HO.out.lt g h).1)⟩
            case measure => simp [intOf]; omega
          · have b40 : ((s[p].toNat : Int) == 40) = false := byte_isnt (n := 40) (by decide) h3
            by_cases h4 : s[p] = 41
            · have b41 : ((s[p].toNat : Int) == 41) = true := by rw [h4]; rfl
              by_cases h5 : d = 1
              · have bz : ((d : Int) - 1 == 0) = true := by simp; omega
                have E : litL (s.data.toList.drop (a + 1)).length 1 (s.data.toList.drop (a + 1)) = some (out, k + 1) := by
                  obtain ⟨e1, e2⟩ := HD.out
                  obtain ⟨f', rfl⟩ : ∃ f', f = f' + 1 := ⟨f - 1, by omega⟩
                  rw [e1, d3, h5, lit_done h4]
                  simp [pre]
                have hr := (litR_some E).symm.trans HR.out
                by_cases hlx : 32767 < out.length
                · have l1 : (32767 : Int) < (out.length : Int) := by omega
                  have hr2 := Lib.hid (hr.symm.trans (strR_long hlx))
                  clear d2 d3 d4 h1 h2 h3 h4 h5 E hr
                  go_wp2_with fail
                  go_ret3
                  exact txt_bad hr2.out (by decide) HB.out
                · have l1 : ¬ (32767 : Int) < (out.length : Int) := by omega
                  have hconv := run_string_of_own HO.out rfl
                  have hr2 := Lib.hid (hr.symm.trans (strR_ok hlx))
                  clear d2 d3 d4 h1 h2 h3 h4 h5 E hr
                  go_wp2_with fail
                  go_ret3
                  exact txt_ok (n := 1 + (k + 1)) (b := ⟨out.toArray⟩) hr2.out (by have := HP.out; omega) HB.out
              · have bz : ((d : Int) - 1 == 0) = false := by simp; omega
                obtain ⟨g, N⟩ := HD.out.step d1 (n := 1) (m := [s[p]]) (d' := d - 1) (by omega) (fun g => by rw [d3]; exact (lit_close h4 h5).trans (by rw [h4]; rfl))
                have NN := Lib.hid N
                clear d2 d3 d4 h1 h2 h3 h4 N
                go_wp2_with (first | (at_builtin; refine wpList_append_own _ rfl _ _ 60 rfl w.heap.size 5 i5 (.int .u8 0) 1 1 Tryz.underlying60 hi hz0 hz1 hz2 rfl (by decide) _ _ _ rfl (HO.out.alloc _) ⟨wr.heap.size, 0, none⟩ 1 1 [.int .u8 (s[p].toNat : Int)] rfl rfl (World.news_of_block (heap_alloc_new wr _)) (by simp [Value.oneCell']) (by unfold maxLen; omega) (by omega) (by simp; omega) ?_))
                intro v3 w3 hown3 hgrow3
                intros
                obtain ⟨A3, C3, rfl⟩ := own_form hown3
                go_wp2
                go_roundw
                case rel => exact ⟨k + 1, p + 1, d - 1, g, out ++ [s[p]], A3, C3, by have := HP.out; omega, by omega, by go_num, by congr 1; omega, by omega, by omega, by simp, NN.out, by simp; omega, by have := cells_snoc out s[p]; rw [List.length_append]; rw [← this]; exact hown3, (HB.out.alloc (by omega) _).grown hgrow3 (by simp; omega) (fun g h => (HO.out.lt g h).1)⟩
                case measure => simp [intOf]; omega
            · have b41 : ((s[p].toNat : Int) == 41) = false := byte_isnt (n := 41) (by decide) h4
              obtain ⟨g, N⟩ := HD.out.step d1 (n := 1) (m := [s[p]]) (d' := d) (by omega) (fun g => by rw [d3]; exact lit_plain h1 h2 h4 h3)
              have NN := Lib.hid N
              clear d2 d3 d4 h1 h2 h3 h4 N
              go_wp2_with (first | (at_builtin; refine wpList_append_own _ rfl _ _ 60 rfl w.heap.size 5 i5 (.int .u8 0) 1 1 Tryz.underlying60 hi hz0 hz1 hz2 rfl (by decide) _ _ _ rfl (HO.out.alloc _) ⟨wr.heap.size, 0, none⟩ 1 1 [.int .u8 (s[p].toNat : Int)] rfl rfl (World.news_of_block (heap_alloc_new wr _)) (by simp [Value.oneCell']) (by unfold maxLen; omega) (by omega) (by simp; omega) ?_))
              intro v3 w3 hown3 hgrow3
              intros
              obtain ⟨A3, C3, rfl⟩ := own_form hown3
              go_wp2
              go_roundw
              case rel => exact ⟨k + 1, p + 1, d, g, out ++ [s[p]], A3, C3, by have := HP.out; omega, by omega, by go_num, rfl, by omega, by omega, by simp, NN.out, by simp; omega, by have := cells_snoc out s[p]; rw [List.length_append]; rw [← this]; exact hown3, (HB.out.alloc (by omega) _).grown hgrow3 (by simp; omega) (fun g h => (HO.out.lt g h).1)⟩
              case measure => simp [intOf]; omega
    · have E : litL (s.data.toList.drop (a + 1)).length 1 (s.data.toList.drop (a + 1)) = none := by
        rw [HD.out.1, List.drop_eq_nil_of_le (drop_len HP.out hlt), lit_end]
        rfl
      have hr := Lib.hid ((litR_none E).symm.trans HR.out)
      clear E
      go_wp2_with fail
      go_ret3
      exact txt_bad hr.out.symm (by decide) HB.out
end Go.Proofs.YtdpbpdikgcepbaaGreatDoor
namespace Go.Proofs.YtdpbpdikgcepbaaGreatDoor
open Go.RowKit Oct Fix Lex

theorem litR_norm (t : List UInt8) : (∃ n x, litR t = ⟨0, 3, n, 0, x⟩) ∨ ∃ c, c ≠ 0 ∧ litR t = bad c := by
  unfold litR
  cases litL t.length 1 t with
  | none => exact .inr ⟨4, by decide, rfl⟩
  | some x =>
    simp only
    split
    · exact .inr ⟨5, by decide, rfl⟩
    · exact .inl ⟨_, _, rfl⟩
theorem hexL_err (t : List UInt8) : (hexL t).1 = 0 ∨ (hexL t).1 = 3 ∨ (hexL t).1 = 4 := by
  induction t with
  | nil => simp [hexL]
  | cons c t ih =>
    rw [hexL]
    repeat' split
    all_goals simp_all
theorem hexR_norm (t : List UInt8) : (∃ n x, hexR t = ⟨0, 3, n, 0, x⟩) ∨ ∃ c, c ≠ 0 ∧ hexR t = bad c := by
  unfold hexR
  split
  · cases unhexS (evenL (hexL t).2.1) with
    | none => exact .inr ⟨3, by decide, rfl⟩
    | some x =>
      simp only
      split
      · exact .inr ⟨5, by decide, rfl⟩
      · exact .inl ⟨_, _, rfl⟩
  · rename_i h
    rcases hexL_err t with e | e | e
    · exact absurd e h
    · exact .inr ⟨3, by decide, by rw [e]⟩
    · exact .inr ⟨4, by decide, by rw [e]⟩
theorem word_norm (u : List UInt8) : (∃ k n x, wordU u = ⟨0, k, u.length, n, x⟩) ∨ ∃ c, c ≠ 0 ∧ wordU u = bad c := by
  rcases word_cases u with e | e | ⟨k, n, x, _, e⟩
  · exact .inr ⟨_, by decide, e⟩
  · exact .inr ⟨_, by decide, e⟩
  · exact .inl ⟨k, n, x, e⟩

end Go.Proofs.YtdpbpdikgcepbaaGreatDoor
namespace Go.Proofs.YtdpbpdikgcepbaaGreatDoor
open Go.RowKit Oct Fix Lex

section
variable (s : ByteArray) (i : Nat) (w : World) (hs : s.size ≤ 100000) (hi : i < s.size)
include hs hi

set_option maxRecDepth 100000 in
set_option maxHeartbeats 4000000 in
theorem tok_dbl60 (hc : s[i] = 60) (hl : i + 1 < s.size) (hd : s[i + 1] = 60) :
    Calls Tryz.prog 45 #[.string s, .int .i64 (i : Int)] w fun e w' => e = .returned (.tuple #[.agg #[.int .i64 6, .int .i64 (i : Int), .int .i64 ((i : Int) + 2), .int .i64 0, .string (s.extract i (i + 2))], .int .i64 0]) ∧ Below w.heap.size w w' := by
  have _hs := hs
  have i0 : (0 : Int) ≤ (i : Int) := by omega
  have i1 : (i : Int) < (s.size : Int) := by omega
  have b60 : ((s[i].toNat : Int) == 60) = true := by rw [hc]; rfl
  have b62 : ((s[i].toNat : Int) == 62) = false := by rw [hc]; rfl
  have b91 : ((s[i].toNat : Int) == 91) = false := by rw [hc]; rfl
  have b93 : ((s[i].toNat : Int) == 93) = false := by rw [hc]; rfl
  have b123 : ((s[i].toNat : Int) == 123) = false := by rw [hc]; rfl
  have b125 : ((s[i].toNat : Int) == 125) = false := by rw [hc]; rfl
  have b41 : ((s[i].toNat : Int) == 41) = false := by rw [hc]; rfl
  have b47 : ((s[i].toNat : Int) == 47) = false := by rw [hc]; rfl
  have b40 : ((s[i].toNat : Int) == 40) = false := by rw [hc]; rfl
  have l1 : (i : Int) + 1 < (s.size : Int) := by omega
  have l2 : (0 : Int) ≤ (i : Int) + 1 := by omega
  have l3 : ((s[i + 1].toNat : Int) == (s[i].toNat : Int)) = true := by rw [hc, hd]; rfl
  have l4 : (i : Int) + 2 ≤ (s.size : Int) := by omega
  clear hc hd
  go_enter Tryz.func45, Tryz.ntmps45
  go_wp2_with fail
  exact bodyPost_ret (v := .tuple #[.agg #[.int .i64 6, .int .i64 (i : Int), .int .i64 ((i : Int) + 2), .int .i64 0, .string (s.extract i (i + 2))], .int .i64 0]) (by simp [results, Tryz.results45, go_sem]) rfl ⟨rfl, below_tok _ _ _⟩

set_option maxRecDepth 100000 in
set_option maxHeartbeats 4000000 in
theorem tok_dbl62 (hc : s[i] = 62) (hl : i + 1 < s.size) (hd : s[i + 1] = 62) :
    Calls Tryz.prog 45 #[.string s, .int .i64 (i : Int)] w fun e w' => e = .returned (.tuple #[.agg #[.int .i64 6, .int .i64 (i : Int), .int .i64 ((i : Int) + 2), .int .i64 0, .string (s.extract i (i + 2))], .int .i64 0]) ∧ Below w.heap.size w w' := by
  have _hs := hs
  have i0 : (0 : Int) ≤ (i : Int) := by omega
  have i1 : (i : Int) < (s.size : Int) := by omega
  have b60 : ((s[i].toNat : Int) == 60) = false := by rw [hc]; rfl
  have b62 : ((s[i].toNat : Int) == 62) = true := by rw [hc]; rfl
  have b91 : ((s[i].toNat : Int) == 91) = false := by rw [hc]; rfl
  have b93 : ((s[i].toNat : Int) == 93) = false := by rw [hc]; rfl
  have b123 : ((s[i].toNat : Int) == 123) = false := by rw [hc]; rfl
  have b125 : ((s[i].toNat : Int) == 125) = false := by rw [hc]; rfl
  have b41 : ((s[i].toNat : Int) == 41) = false := by rw [hc]; rfl
  have b47 : ((s[i].toNat : Int) == 47) = false := by rw [hc]; rfl
  have b40 : ((s[i].toNat : Int) == 40) = false := by rw [hc]; rfl
  have l1 : (i : Int) + 1 < (s.size : Int) := by omega
  have l2 : (0 : Int) ≤ (i : Int) + 1 := by omega
  have l3 : ((s[i + 1].toNat : Int) == (s[i].toNat : Int)) = true := by rw [hc, hd]; rfl
  have l4 : (i : Int) + 2 ≤ (s.size : Int) := by omega
  clear hc hd
  go_enter Tryz.func45, Tryz.ntmps45
  go_wp2_with fail
  exact bodyPost_ret (v := .tuple #[.agg #[.int .i64 6, .int .i64 (i : Int), .int .i64 ((i : Int) + 2), .int .i64 0, .string (s.extract i (i + 2))], .int .i64 0]) (by simp [results, Tryz.results45, go_sem]) rfl ⟨rfl, below_tok _ _ _⟩

set_option maxRecDepth 100000 in
set_option maxHeartbeats 4000000 in
theorem tok_one91 (hc : s[i] = 91) :
    Calls Tryz.prog 45 #[.string s, .int .i64 (i : Int)] w fun e w' => e = .returned (.tuple #[.agg #[.int .i64 6, .int .i64 (i : Int), .int .i64 ((i : Int) + 1), .int .i64 0, .string (s.extract i (i + 1))], .int .i64 0]) ∧ Below w.heap.size w w' := by
  have _hs := hs
  have i0 : (0 : Int) ≤ (i : Int) := by omega
  have i1 : (i : Int) < (s.size : Int) := by omega
  have b60 : ((s[i].toNat : Int) == 60) = false := by rw [hc]; rfl
  have b62 : ((s[i].toNat : Int) == 62) = false := by rw [hc]; rfl
  have b91 : ((s[i].toNat : Int) == 91) = true := by rw [hc]; rfl
  have b93 : ((s[i].toNat : Int) == 93) = false := by rw [hc]; rfl
  have b123 : ((s[i].toNat : Int) == 123) = false := by rw [hc]; rfl
  have b125 : ((s[i].toNat : Int) == 125) = false := by rw [hc]; rfl
  have b41 : ((s[i].toNat : Int) == 41) = false := by rw [hc]; rfl
  have b47 : ((s[i].toNat : Int) == 47) = false := by rw [hc]; rfl
  have b40 : ((s[i].toNat : Int) == 40) = false := by rw [hc]; rfl
  have l4 : (i : Int) + 1 ≤ (s.size : Int) := by omega
  clear hc
  have dbl : ((i : Int) + 1 < (s.size : Int) ∧ (0 : Int) ≤ (i : Int) + 1) ∨ ¬ (i : Int) + 1 < (s.size : Int) := by omega
  rcases dbl with ⟨l1, l2⟩ | l1
  all_goals
    go_enter Tryz.func45, Tryz.ntmps45
    go_wp2_with fail
    exact bodyPost_ret (v := .tuple #[.agg #[.int .i64 6, .int .i64 (i : Int), .int .i64 ((i : Int) + 1), .int .i64 0, .string (s.extract i (i + 1))], .int .i64 0]) (by simp [results, Tryz.results45, go_sem]) rfl ⟨rfl, below_tok _ _ _⟩

set_option maxRecDepth 100000 in
set_option maxHeartbeats 4000000 in
theorem tok_one93 (hc : s[i] = 93) :
    Calls Tryz.prog 45 #[.string s, .int .i64 (i : Int)] w fun e w' => e = .returned (.tuple #[.agg #[.int .i64 6, .int .i64 (i : Int), .int .i64 ((i : Int) + 1), .int .i64 0, .string (s.extract i (i + 1))], .int .i64 0]) ∧ Below w.heap.size w w' := by
  have _hs := hs
  have i0 : (0 : Int) ≤ (i : Int) := by omega
  have i1 : (i : Int) < (s.size : Int) := by omega
  have b60 : ((s[i].toNat : Int) == 60) = false := by rw [hc]; rfl
  have b62 : ((s[i].toNat : Int) == 62) = false := by rw [hc]; rfl
  have b91 : ((s[i].toNat : Int) == 91) = false := by rw [hc]; rfl
  have b93 : ((s[i].toNat : Int) == 93) = true := by rw [hc]; rfl
  have b123 : ((s[i].toNat : Int) == 123) = false := by rw [hc]; rfl
  have b125 : ((s[i].toNat : Int) == 125) = false := by rw [hc]; rfl
  have b41 : ((s[i].toNat : Int) == 41) = false := by rw [hc]; rfl
  have b47 : ((s[i].toNat : Int) == 47) = false := by rw [hc]; rfl
  have b40 : ((s[i].toNat : Int) == 40) = false := by rw [hc]; rfl
  have l4 : (i : Int) + 1 ≤ (s.size : Int) := by omega
  clear hc
  have dbl : ((i : Int) + 1 < (s.size : Int) ∧ (0 : Int) ≤ (i : Int) + 1) ∨ ¬ (i : Int) + 1 < (s.size : Int) := by omega
  rcases dbl with ⟨l1, l2⟩ | l1
  all_goals
    go_enter Tryz.func45, Tryz.ntmps45
    go_wp2_with fail
    exact bodyPost_ret (v := .tuple #[.agg #[.int .i64 6, .int .i64 (i : Int), .int .i64 ((i : Int) + 1), .int .i64 0, .string (s.extract i (i + 1))], .int .i64 0]) (by simp [results, Tryz.results45, go_sem]) rfl ⟨rfl, below_tok _ _ _⟩

end
end Go.Proofs.YtdpbpdikgcepbaaGreatDoor
namespace Go.Proofs.YtdpbpdikgcepbaaGreatDoor
open Go.RowKit Oct Fix Lex

section
variable (s : ByteArray) (i : Nat) (w : World) (hs : s.size ≤ 100000) (hi : i < s.size)
include hs hi

set_option maxRecDepth 100000 in
set_option maxHeartbeats 4000000 in
theorem tok_one123 (hc : s[i] = 123) :
    Calls Tryz.prog 45 #[.string s, .int .i64 (i : Int)] w fun e w' => e = .returned (.tuple #[.agg #[.int .i64 6, .int .i64 (i : Int), .int .i64 ((i : Int) + 1), .int .i64 0, .string (s.extract i (i + 1))], .int .i64 0]) ∧ Below w.heap.size w w' := by
  have _hs := hs
  have i0 : (0 : Int) ≤ (i : Int) := by omega
  have i1 : (i : Int) < (s.size : Int) := by omega
  have b60 : ((s[i].toNat : Int) == 60) = false := by rw [hc]; rfl
  have b62 : ((s[i].toNat : Int) == 62) = false := by rw [hc]; rfl
  have b91 : ((s[i].toNat : Int) == 91) = false := by rw [hc]; rfl
  have b93 : ((s[i].toNat : Int) == 93) = false := by rw [hc]; rfl
  have b123 : ((s[i].toNat : Int) == 123) = true := by rw [hc]; rfl
  have b125 : ((s[i].toNat : Int) == 125) = false := by rw [hc]; rfl
  have b41 : ((s[i].toNat : Int) == 41) = false := by rw [hc]; rfl
  have b47 : ((s[i].toNat : Int) == 47) = false := by rw [hc]; rfl
  have b40 : ((s[i].toNat : Int) == 40) = false := by rw [hc]; rfl
  have l4 : (i : Int) + 1 ≤ (s.size : Int) := by omega
  clear hc
  have dbl : ((i : Int) + 1 < (s.size : Int) ∧ (0 : Int) ≤ (i : Int) + 1) ∨ ¬ (i : Int) + 1 < (s.size : Int) := by omega
  rcases dbl with ⟨l1, l2⟩ | l1
  all_goals
    go_enter Tryz.func45, Tryz.ntmps45
    go_wp2_with fail
    exact bodyPost_ret (v := .tuple #[.agg #[.int .i64 6, .int .i64 (i : Int), .int .i64 ((i : Int) + 1), .int .i64 0, .string (s.extract i (i + 1))], .int .i64 0]) (by simp [results, Tryz.results45, go_sem]) rfl ⟨rfl, below_tok _ _ _⟩

set_option maxRecDepth 100000 in
set_option maxHeartbeats 4000000 in
theorem tok_one125 (hc : s[i] = 125) :
    Calls Tryz.prog 45 #[.string s, .int .i64 (i : Int)] w fun e w' => e = .returned (.tuple #[.agg #[.int .i64 6, .int .i64 (i : Int), .int .i64 ((i : Int) + 1), .int .i64 0, .string (s.extract i (i + 1))], .int .i64 0]) ∧ Below w.heap.size w w' := by
  have _hs := hs
  have i0 : (0 : Int) ≤ (i : Int) := by omega
  have i1 : (i : Int) < (s.size : Int) := by omega
  have b60 : ((s[i].toNat : Int) == 60) = false := by rw [hc]; rfl
  have b62 : ((s[i].toNat : Int) == 62) = false := by rw [hc]; rfl
  have b91 : ((s[i].toNat : Int) == 91) = false := by rw [hc]; rfl
  have b93 : ((s[i].toNat : Int) == 93) = false := by rw [hc]; rfl
  have b123 : ((s[i].toNat : Int) == 123) = false := by rw [hc]; rfl
  have b125 : ((s[i].toNat : Int) == 125) = true := by rw [hc]; rfl
  have b41 : ((s[i].toNat : Int) == 41) = false := by rw [hc]; rfl
  have b47 : ((s[i].toNat : Int) == 47) = false := by rw [hc]; rfl
  have b40 : ((s[i].toNat : Int) == 40) = false := by rw [hc]; rfl
  have l4 : (i : Int) + 1 ≤ (s.size : Int) := by omega
  clear hc
  have dbl : ((i : Int) + 1 < (s.size : Int) ∧ (0 : Int) ≤ (i : Int) + 1) ∨ ¬ (i : Int) + 1 < (s.size : Int) := by omega
  rcases dbl with ⟨l1, l2⟩ | l1
  all_goals
    go_enter Tryz.func45, Tryz.ntmps45
    go_wp2_with fail
    exact bodyPost_ret (v := .tuple #[.agg #[.int .i64 6, .int .i64 (i : Int), .int .i64 ((i : Int) + 1), .int .i64 0, .string (s.extract i (i + 1))], .int .i64 0]) (by simp [results, Tryz.results45, go_sem]) rfl ⟨rfl, below_tok _ _ _⟩

set_option maxRecDepth 100000 in
set_option maxHeartbeats 4000000 in
theorem tok_gt (hc : s[i] = 62) (hd : ∀ h : i + 1 < s.size, s[i + 1] ≠ 62) :
    Calls Tryz.prog 45 #[.string s, .int .i64 (i : Int)] w fun e w' => e = .returned (.tuple #[.agg #[.int .i64 0, .int .i64 0, .int .i64 0, .int .i64 0, .string ⟨#[]⟩], .int .i64 3]) ∧ Below w.heap.size w w' := by
  have _hs := hs
  have i0 : (0 : Int) ≤ (i : Int) := by omega
  have i1 : (i : Int) < (s.size : Int) := by omega
  have b60 : ((s[i].toNat : Int) == 60) = false := by rw [hc]; rfl
  have b62 : ((s[i].toNat : Int) == 62) = true := by rw [hc]; rfl
  have b91 : ((s[i].toNat : Int) == 91) = false := by rw [hc]; rfl
  have b93 : ((s[i].toNat : Int) == 93) = false := by rw [hc]; rfl
  have b123 : ((s[i].toNat : Int) == 123) = false := by rw [hc]; rfl
  have b125 : ((s[i].toNat : Int) == 125) = false := by rw [hc]; rfl
  have b41 : ((s[i].toNat : Int) == 41) = false := by rw [hc]; rfl
  have b47 : ((s[i].toNat : Int) == 47) = false := by rw [hc]; rfl
  have b40 : ((s[i].toNat : Int) == 40) = false := by rw [hc]; rfl
  have dbl : ((i : Int) + 1 < (s.size : Int) ∧ (0 : Int) ≤ (i : Int) + 1 ∧ ∀ h : i + 1 < s.size, ((s[i + 1].toNat : Int) == (s[i].toNat : Int)) = false) ∨ ¬ (i : Int) + 1 < (s.size : Int) := by
    by_cases hl : i + 1 < s.size
    · refine .inl ⟨by omega, by omega, fun h => ?_⟩
      rw [hc]
      exact byte_isnt (n := 62) (by decide) (hd h)
    · exact .inr (by omega)
  clear hc hd
  rcases dbl with ⟨l1, l2, l3⟩ | l1
  all_goals
    try (have l4 := l3 (by omega); clear l3)
    go_enter Tryz.func45, Tryz.ntmps45
    go_wp2_with fail
    exact bodyPost_ret (v := .tuple #[.agg #[.int .i64 0, .int .i64 0, .int .i64 0, .int .i64 0, .string ⟨#[]⟩], .int .i64 3]) (by simp [results, Tryz.results45, go_sem]) rfl ⟨rfl, below_tok _ _ _⟩

set_option maxRecDepth 100000 in
set_option maxHeartbeats 4000000 in
theorem tok_close (hc : s[i] = 41) :
    Calls Tryz.prog 45 #[.string s, .int .i64 (i : Int)] w fun e w' => e = .returned (.tuple #[.agg #[.int .i64 0, .int .i64 0, .int .i64 0, .int .i64 0, .string ⟨#[]⟩], .int .i64 3]) ∧ Below w.heap.size w w' := by
  have _hs := hs
  have i0 : (0 : Int) ≤ (i : Int) := by omega
  have i1 : (i : Int) < (s.size : Int) := by omega
  have b60 : ((s[i].toNat : Int) == 60) = false := by rw [hc]; rfl
  have b62 : ((s[i].toNat : Int) == 62) = false := by rw [hc]; rfl
  have b91 : ((s[i].toNat : Int) == 91) = false := by rw [hc]; rfl
  have b93 : ((s[i].toNat : Int) == 93) = false := by rw [hc]; rfl
  have b123 : ((s[i].toNat : Int) == 123) = false := by rw [hc]; rfl
  have b125 : ((s[i].toNat : Int) == 125) = false := by rw [hc]; rfl
  have b41 : ((s[i].toNat : Int) == 41) = true := by rw [hc]; rfl
  have b47 : ((s[i].toNat : Int) == 47) = false := by rw [hc]; rfl
  have b40 : ((s[i].toNat : Int) == 40) = false := by rw [hc]; rfl
  clear hc
  have dbl : ((i : Int) + 1 < (s.size : Int) ∧ (0 : Int) ≤ (i : Int) + 1) ∨ ¬ (i : Int) + 1 < (s.size : Int) := by omega
  rcases dbl with ⟨l1, l2⟩ | l1
  all_goals
    go_enter Tryz.func45, Tryz.ntmps45
    go_wp2_with fail
    exact bodyPost_ret (v := .tuple #[.agg #[.int .i64 0, .int .i64 0, .int .i64 0, .int .i64 0, .string ⟨#[]⟩], .int .i64 3]) (by simp [results, Tryz.results45, go_sem]) rfl ⟨rfl, below_tok _ _ _⟩

end
end Go.Proofs.YtdpbpdikgcepbaaGreatDoor
namespace Go.Proofs.YtdpbpdikgcepbaaGreatDoor
open Go.RowKit Oct Fix Lex

section
variable (s : ByteArray) (i : Nat) (w : World) (hs : s.size ≤ 100000) (hi : i < s.size)
include hs hi

set_option maxRecDepth 100000 in
set_option maxHeartbeats 4000000 in
theorem tok_name_ok (t : ByteArray) (c : Int) (p : Nat) (hc : s[i] = 47) (hp : i + 1 ≤ p) (hps : p ≤ s.size) (hcc : c = 0)
    (hrun : ∀ W : World, Calls Tryz.prog 72 #[.string s, .int .i64 ((i + 1 : Nat) : Int)] W fun e w' => e = .returned (.int .i64 (p : Int)) ∧ W = w')
    (hdec : ∀ W : World, Calls Tryz.prog 73 #[.string (s.extract (i + 1) p)] W fun e w' => e = .returned (.tuple #[.string t, .int .i64 c]) ∧ Below W.heap.size W w') :
    Calls Tryz.prog 45 #[.string s, .int .i64 (i : Int)] w fun e w' => e = .returned (.tuple #[.agg #[.int .i64 4, .int .i64 (i : Int), .int .i64 (p : Int), .int .i64 0, .string t], .int .i64 0]) ∧ Below w.heap.size w w' := by
  have _hs := hs
  have i0 : (0 : Int) ≤ (i : Int) := by omega
  have i1 : (i : Int) < (s.size : Int) := by omega
  have b60 : ((s[i].toNat : Int) == 60) = false := by rw [hc]; rfl
  have b62 : ((s[i].toNat : Int) == 62) = false := by rw [hc]; rfl
  have b91 : ((s[i].toNat : Int) == 91) = false := by rw [hc]; rfl
  have b93 : ((s[i].toNat : Int) == 93) = false := by rw [hc]; rfl
  have b123 : ((s[i].toNat : Int) == 123) = false := by rw [hc]; rfl
  have b125 : ((s[i].toNat : Int) == 125) = false := by rw [hc]; rfl
  have b41 : ((s[i].toNat : Int) == 41) = false := by rw [hc]; rfl
  have b47 : ((s[i].toNat : Int) == 47) = true := by rw [hc]; rfl
  have b40 : ((s[i].toNat : Int) == 40) = false := by rw [hc]; rfl
  have q1 : (i : Int) + 1 ≤ (p : Int) := by omega
  have bc : (c != 0) = false := by simp [hcc]
  have HRUN := Lib.hid hrun
  have HDEC := Lib.hid hdec
  clear hrun hdec hcc
  clear hc
  have dbl : ((i : Int) + 1 < (s.size : Int) ∧ (0 : Int) ≤ (i : Int) + 1) ∨ ¬ (i : Int) + 1 < (s.size : Int) := by omega
  rcases dbl with ⟨l1, l2⟩ | l1
  all_goals
    go_enter Tryz.func45, Tryz.ntmps45
    go_wp2_with fail
    refine (HRUN.out _).mono ?_
    rintro e w' ⟨rfl, rfl⟩
    go_wp2_with fail
    refine (HDEC.out _).mono ?_
    rintro e w2 ⟨rfl, hb⟩
    simp at hb
    have hB := tok_cell hb
    have HB := Lib.hid (tok_below hb)
    have hg := HB.out.size
    have c0 := hB.cell 0
    have c1 := hB.cell 1
    have c2 := hB.cell 2
    have c3 := hB.cell 3
    have c4 := hB.cell 4
    have f0 := hB.frozen 0
    have f1 := hB.frozen 1
    have f2 := hB.frozen 2
    have f3 := hB.frozen 3
    have f4 := hB.frozen 4
    clear hb hB
    simp only [List.getElem?_toArray, List.getElem?_cons_zero, List.getElem?_cons_succ] at c0 c1 c2 c3 c4
    go_wp2_with fail
    exact bodyPost_ret (v := .tuple #[.agg #[.int .i64 4, .int .i64 (i : Int), .int .i64 (p : Int), .int .i64 0, .string t], .int .i64 0]) (by simp [results, Tryz.results45, go_sem, c0, c1, c2, c3, c4]) rfl ⟨rfl, set_below (set_below (set_below (set_below (set_below HB.out _ _) _ _) _ _) _ _) _ _⟩

set_option maxRecDepth 100000 in
set_option maxHeartbeats 4000000 in
theorem tok_name_bad (t : ByteArray) (c : Int) (p : Nat) (hc : s[i] = 47) (hp : i + 1 ≤ p) (hps : p ≤ s.size) (hcc : c ≠ 0)
    (hrun : ∀ W : World, Calls Tryz.prog 72 #[.string s, .int .i64 ((i + 1 : Nat) : Int)] W fun e w' => e = .returned (.int .i64 (p : Int)) ∧ W = w')
    (hdec : ∀ W : World, Calls Tryz.prog 73 #[.string (s.extract (i + 1) p)] W fun e w' => e = .returned (.tuple #[.string t, .int .i64 c]) ∧ Below W.heap.size W w') :
    Calls Tryz.prog 45 #[.string s, .int .i64 (i : Int)] w fun e w' => e = .returned (.tuple #[.agg #[.int .i64 0, .int .i64 0, .int .i64 0, .int .i64 0, .string ⟨#[]⟩], .int .i64 c]) ∧ Below w.heap.size w w' := by
  have _hs := hs
  have i0 : (0 : Int) ≤ (i : Int) := by omega
  have i1 : (i : Int) < (s.size : Int) := by omega
  have b60 : ((s[i].toNat : Int) == 60) = false := by rw [hc]; rfl
  have b62 : ((s[i].toNat : Int) == 62) = false := by rw [hc]; rfl
  have b91 : ((s[i].toNat : Int) == 91) = false := by rw [hc]; rfl
  have b93 : ((s[i].toNat : Int) == 93) = false := by rw [hc]; rfl
  have b123 : ((s[i].toNat : Int) == 123) = false := by rw [hc]; rfl
  have b125 : ((s[i].toNat : Int) == 125) = false := by rw [hc]; rfl
  have b41 : ((s[i].toNat : Int) == 41) = false := by rw [hc]; rfl
  have b47 : ((s[i].toNat : Int) == 47) = true := by rw [hc]; rfl
  have b40 : ((s[i].toNat : Int) == 40) = false := by rw [hc]; rfl
  have q1 : (i : Int) + 1 ≤ (p : Int) := by omega
  have bc : (c != 0) = true := by simpa using hcc
  have HRUN := Lib.hid hrun
  have HDEC := Lib.hid hdec
  clear hrun hdec hcc
  clear hc
  have dbl : ((i : Int) + 1 < (s.size : Int) ∧ (0 : Int) ≤ (i : Int) + 1) ∨ ¬ (i : Int) + 1 < (s.size : Int) := by omega
  rcases dbl with ⟨l1, l2⟩ | l1
  all_goals
    go_enter Tryz.func45, Tryz.ntmps45
    go_wp2_with fail
    refine (HRUN.out _).mono ?_
    rintro e w' ⟨rfl, rfl⟩
    go_wp2_with fail
    refine (HDEC.out _).mono ?_
    rintro e w2 ⟨rfl, hb⟩
    simp at hb
    have hB := tok_cell hb
    have HB := Lib.hid (tok_below hb)
    have hg := HB.out.size
    have c0 := hB.cell 0
    have c1 := hB.cell 1
    have c2 := hB.cell 2
    have c3 := hB.cell 3
    have c4 := hB.cell 4
    have f0 := hB.frozen 0
    have f1 := hB.frozen 1
    have f2 := hB.frozen 2
    have f3 := hB.frozen 3
    have f4 := hB.frozen 4
    clear hb hB
    simp only [List.getElem?_toArray, List.getElem?_cons_zero, List.getElem?_cons_succ] at c0 c1 c2 c3 c4
    go_wp2_with fail
    exact bodyPost_ret (v := .tuple #[.agg #[.int .i64 0, .int .i64 0, .int .i64 0, .int .i64 0, .string ⟨#[]⟩], .int .i64 c]) (by simp [results, Tryz.results45, go_sem, c0, c1, c2, c3, c4]) rfl ⟨rfl, set_below (set_below (set_below (set_below (set_below HB.out _ _) _ _) _ _) _ _) _ _⟩

set_option maxRecDepth 100000 in
set_option maxHeartbeats 4000000 in
theorem tok_text_ok (R : TR) (hc : s[i] = 40) (hR : R.err = 0)
    (htxt : ∀ W : World, Calls Tryz.prog 74 #[.string s, .int .i64 ((i : Int) + 1)] W (TxtEnd i R W)) :
    Calls Tryz.prog 45 #[.string s, .int .i64 (i : Int)] w fun e w' => e = .returned (.tuple #[.agg #[.int .i64 3, .int .i64 (i : Int), .int .i64 (tT i R), .int .i64 0, .string (tS R)], .int .i64 0]) ∧ Below w.heap.size w w' := by
  have _hs := hs
  have i0 : (0 : Int) ≤ (i : Int) := by omega
  have i1 : (i : Int) < (s.size : Int) := by omega
  have b60 : ((s[i].toNat : Int) == 60) = false := by rw [hc]; rfl
  have b62 : ((s[i].toNat : Int) == 62) = false := by rw [hc]; rfl
  have b91 : ((s[i].toNat : Int) == 91) = false := by rw [hc]; rfl
  have b93 : ((s[i].toNat : Int) == 93) = false := by rw [hc]; rfl
  have b123 : ((s[i].toNat : Int) == 123) = false := by rw [hc]; rfl
  have b125 : ((s[i].toNat : Int) == 125) = false := by rw [hc]; rfl
  have b41 : ((s[i].toNat : Int) == 41) = false := by rw [hc]; rfl
  have b47 : ((s[i].toNat : Int) == 47) = false := by rw [hc]; rfl
  have b40 : ((s[i].toNat : Int) == 40) = true := by rw [hc]; rfl
  have bc : (R.err != 0) = false := by simp [hR]
  have HTXT := Lib.hid htxt
  clear htxt hR
  clear hc
  have dbl : ((i : Int) + 1 < (s.size : Int) ∧ (0 : Int) ≤ (i : Int) + 1) ∨ ¬ (i : Int) + 1 < (s.size : Int) := by omega
  rcases dbl with ⟨l1, l2⟩ | l1
  all_goals
    go_enter Tryz.func45, Tryz.ntmps45
    go_wp2_with fail
    refine (HTXT.out _).mono ?_
    rintro e w2 ⟨rfl, hb⟩
    simp at hb
    have hB := tok_cell hb
    have HB := Lib.hid (tok_below hb)
    have hg := HB.out.size
    have c0 := hB.cell 0
    have c1 := hB.cell 1
    have c2 := hB.cell 2
    have c3 := hB.cell 3
    have c4 := hB.cell 4
    have f0 := hB.frozen 0
    have f1 := hB.frozen 1
    have f2 := hB.frozen 2
    have f3 := hB.frozen 3
    have f4 := hB.frozen 4
    clear hb hB
    simp only [List.getElem?_toArray, List.getElem?_cons_zero, List.getElem?_cons_succ] at c0 c1 c2 c3 c4
    go_wp2_with fail
    exact bodyPost_ret (v := .tuple #[.agg #[.int .i64 3, .int .i64 (i : Int), .int .i64 (tT i R), .int .i64 0, .string (tS R)], .int .i64 0]) (by simp [results, Tryz.results45, go_sem, c0, c1, c2, c3, c4]) rfl ⟨rfl, set_below (set_below (set_below (set_below (set_below HB.out _ _) _ _) _ _) _ _) _ _⟩

set_option maxRecDepth 100000 in
set_option maxHeartbeats 4000000 in
theorem tok_text_bad (R : TR) (hc : s[i] = 40) (hR : R.err ≠ 0)
    (htxt : ∀ W : World, Calls Tryz.prog 74 #[.string s, .int .i64 ((i : Int) + 1)] W (TxtEnd i R W)) :
    Calls Tryz.prog 45 #[.string s, .int .i64 (i : Int)] w fun e w' => e = .returned (.tuple #[.agg #[.int .i64 0, .int .i64 0, .int .i64 0, .int .i64 0, .string ⟨#[]⟩], .int .i64 R.err]) ∧ Below w.heap.size w w' := by
  have _hs := hs
  have i0 : (0 : Int) ≤ (i : Int) := by omega
  have i1 : (i : Int) < (s.size : Int) := by omega
  have b60 : ((s[i].toNat : Int) == 60) = false := by rw [hc]; rfl
  have b62 : ((s[i].toNat : Int) == 62) = false := by rw [hc]; rfl
  have b91 : ((s[i].toNat : Int) == 91) = false := by rw [hc]; rfl
  have b93 : ((s[i].toNat : Int) == 93) = false := by rw [hc]; rfl
  have b123 : ((s[i].toNat : Int) == 123) = false := by rw [hc]; rfl
  have b125 : ((s[i].toNat : Int) == 125) = false := by rw [hc]; rfl
  have b41 : ((s[i].toNat : Int) == 41) = false := by rw [hc]; rfl
  have b47 : ((s[i].toNat : Int) == 47) = false := by rw [hc]; rfl
  have b40 : ((s[i].toNat : Int) == 40) = true := by rw [hc]; rfl
  have bc : (R.err != 0) = true := by simpa using hR
  have HTXT := Lib.hid htxt
  clear htxt hR
  clear hc
  have dbl : ((i : Int) + 1 < (s.size : Int) ∧ (0 : Int) ≤ (i : Int) + 1) ∨ ¬ (i : Int) + 1 < (s.size : Int) := by omega
  rcases dbl with ⟨l1, l2⟩ | l1
  all_goals
    go_enter Tryz.func45, Tryz.ntmps45
    go_wp2_with fail
    refine (HTXT.out _).mono ?_
    rintro e w2 ⟨rfl, hb⟩
    simp at hb
    have hB := tok_cell hb
    have HB := Lib.hid (tok_below hb)
    have hg := HB.out.size
    have c0 := hB.cell 0
    have c1 := hB.cell 1
    have c2 := hB.cell 2
    have c3 := hB.cell 3
    have c4 := hB.cell 4
    have f0 := hB.frozen 0
    have f1 := hB.frozen 1
    have f2 := hB.frozen 2
    have f3 := hB.frozen 3
    have f4 := hB.frozen 4
    clear hb hB
    simp only [List.getElem?_toArray, List.getElem?_cons_zero, List.getElem?_cons_succ] at c0 c1 c2 c3 c4
    go_wp2_with fail
    exact bodyPost_ret (v := .tuple #[.agg #[.int .i64 0, .int .i64 0, .int .i64 0, .int .i64 0, .string ⟨#[]⟩], .int .i64 R.err]) (by simp [results, Tryz.results45, go_sem, c0, c1, c2, c3, c4]) rfl ⟨rfl, set_below (set_below (set_below (set_below (set_below HB.out _ _) _ _) _ _) _ _) _ _⟩

end
end Go.Proofs.YtdpbpdikgcepbaaGreatDoor
namespace Go.Proofs.YtdpbpdikgcepbaaGreatDoor
open Go.RowKit Oct Fix Lex

section
variable (s : ByteArray) (i : Nat) (w : World) (hs : s.size ≤ 100000) (hi : i < s.size)
include hs hi

set_option maxRecDepth 100000 in
set_option maxHeartbeats 4000000 in
theorem tok_hex_ok (R : TR) (hc : s[i] = 60) (hR : R.err = 0) (R2 : TR) (hd : ∀ h : i + 1 < s.size, s[i + 1] ≠ 60)
    (htxt : ∀ W : World, Calls Tryz.prog 74 #[.string s, .int .i64 ((i : Int) + 1)] W (TxtEnd i R2 W))
    (hhex : ∀ W : World, Calls Tryz.prog 75 #[.string s, .int .i64 ((i : Int) + 1)] W (TxtEnd i R W)) :
    Calls Tryz.prog 45 #[.string s, .int .i64 (i : Int)] w fun e w' => e = .returned (.tuple #[.agg #[.int .i64 3, .int .i64 (i : Int), .int .i64 (tT i R), .int .i64 0, .string (tS R)], .int .i64 0]) ∧ Below w.heap.size w w' := by
  have _hs := hs
  have i0 : (0 : Int) ≤ (i : Int) := by omega
  have i1 : (i : Int) < (s.size : Int) := by omega
  have b60 : ((s[i].toNat : Int) == 60) = true := by rw [hc]; rfl
  have b62 : ((s[i].toNat : Int) == 62) = false := by rw [hc]; rfl
  have b91 : ((s[i].toNat : Int) == 91) = false := by rw [hc]; rfl
  have b93 : ((s[i].toNat : Int) == 93) = false := by rw [hc]; rfl
  have b123 : ((s[i].toNat : Int) == 123) = false := by rw [hc]; rfl
  have b125 : ((s[i].toNat : Int) == 125) = false := by rw [hc]; rfl
  have b41 : ((s[i].toNat : Int) == 41) = false := by rw [hc]; rfl
  have b47 : ((s[i].toNat : Int) == 47) = false := by rw [hc]; rfl
  have b40 : ((s[i].toNat : Int) == 40) = false := by rw [hc]; rfl
  have bc : (R.err != 0) = false := by simp [hR]
  have HTXT := Lib.hid htxt
  have HHEX := Lib.hid hhex
  clear htxt hR hhex
  have dbl : ((i : Int) + 1 < (s.size : Int) ∧ (0 : Int) ≤ (i : Int) + 1 ∧ ∀ h : i + 1 < s.size, ((s[i + 1].toNat : Int) == (s[i].toNat : Int)) = false) ∨ ¬ (i : Int) + 1 < (s.size : Int) := by
    by_cases hl : i + 1 < s.size
    · refine .inl ⟨by omega, by omega, fun h => ?_⟩
      rw [hc]
      exact byte_isnt (n := 60) (by decide) (hd h)
    · exact .inr (by omega)
  clear hc hd
  rcases dbl with ⟨l1, l2, l3⟩ | l1
  all_goals
    try (have l4 := l3 (by omega); clear l3)
    go_enter Tryz.func45, Tryz.ntmps45
    go_wp2_with fail
    refine (HTXT.out _).mono ?_
    rintro e w2 ⟨rfl, hb⟩
    simp at hb
    have hbs := hb.size
    have HB1 := Lib.hid hb
    clear hb
    go_wp2_with fail
    refine (HHEX.out _).mono ?_
    rintro e w3 ⟨rfl, hb3⟩
    have hb := HB1.out.trans (hb3.mono (by simpa using hbs))
    clear hb3
    have hB := tok_cell hb
    have HB := Lib.hid (tok_below hb)
    have hg := HB.out.size
    have c0 := hB.cell 0
    have c1 := hB.cell 1
    have c2 := hB.cell 2
    have c3 := hB.cell 3
    have c4 := hB.cell 4
    have f0 := hB.frozen 0
    have f1 := hB.frozen 1
    have f2 := hB.frozen 2
    have f3 := hB.frozen 3
    have f4 := hB.frozen 4
    clear hb hB
    simp only [List.getElem?_toArray, List.getElem?_cons_zero, List.getElem?_cons_succ] at c0 c1 c2 c3 c4
    go_wp2_with fail
    exact bodyPost_ret (v := .tuple #[.agg #[.int .i64 3, .int .i64 (i : Int), .int .i64 (tT i R), .int .i64 0, .string (tS R)], .int .i64 0]) (by simp [results, Tryz.results45, go_sem, c0, c1, c2, c3, c4]) rfl ⟨rfl, set_below (set_below (set_below (set_below (set_below HB.out _ _) _ _) _ _) _ _) _ _⟩

set_option maxRecDepth 100000 in
set_option maxHeartbeats 4000000 in
theorem tok_hex_bad (R : TR) (hc : s[i] = 60) (hR : R.err ≠ 0) (R2 : TR) (hd : ∀ h : i + 1 < s.size, s[i + 1] ≠ 60)
    (htxt : ∀ W : World, Calls Tryz.prog 74 #[.string s, .int .i64 ((i : Int) + 1)] W (TxtEnd i R2 W))
    (hhex : ∀ W : World, Calls Tryz.prog 75 #[.string s, .int .i64 ((i : Int) + 1)] W (TxtEnd i R W)) :
    Calls Tryz.prog 45 #[.string s, .int .i64 (i : Int)] w fun e w' => e = .returned (.tuple #[.agg #[.int .i64 0, .int .i64 0, .int .i64 0, .int .i64 0, .string ⟨#[]⟩], .int .i64 R.err]) ∧ Below w.heap.size w w' := by
  have _hs := hs
  have i0 : (0 : Int) ≤ (i : Int) := by omega
  have i1 : (i : Int) < (s.size : Int) := by omega
  have b60 : ((s[i].toNat : Int) == 60) = true := by rw [hc]; rfl
  have b62 : ((s[i].toNat : Int) == 62) = false := by rw [hc]; rfl
  have b91 : ((s[i].toNat : Int) == 91) = false := by rw [hc]; rfl
  have b93 : ((s[i].toNat : Int) == 93) = false := by rw [hc]; rfl
  have b123 : ((s[i].toNat : Int) == 123) = false := by rw [hc]; rfl
  have b125 : ((s[i].toNat : Int) == 125) = false := by rw [hc]; rfl
  have b41 : ((s[i].toNat : Int) == 41) = false := by rw [hc]; rfl
  have b47 : ((s[i].toNat : Int) == 47) = false := by rw [hc]; rfl
  have b40 : ((s[i].toNat : Int) == 40) = false := by rw [hc]; rfl
  have bc : (R.err != 0) = true := by simpa using hR
  have HTXT := Lib.hid htxt
  have HHEX := Lib.hid hhex
  clear htxt hR hhex
  have dbl : ((i : Int) + 1 < (s.size : Int) ∧ (0 : Int) ≤ (i : Int) + 1 ∧ ∀ h : i + 1 < s.size, ((s[i + 1].toNat : Int) == (s[i].toNat : Int)) = false) ∨ ¬ (i : Int) + 1 < (s.size : Int) := by
    by_cases hl : i + 1 < s.size
    · refine .inl ⟨by omega, by omega, fun h => ?_⟩
      rw [hc]
      exact byte_isnt (n := 60) (by decide) (hd h)
    · exact .inr (by omega)
  clear hc hd
  rcases dbl with ⟨l1, l2, l3⟩ | l1
  all_goals
    try (have l4 := l3 (by omega); clear l3)
    go_enter Tryz.func45, Tryz.ntmps45
    go_wp2_with fail
    refine (HTXT.out _).mono ?_
    rintro e w2 ⟨rfl, hb⟩
    simp at hb
    have hbs := hb.size
    have HB1 := Lib.hid hb
    clear hb
    go_wp2_with fail
    refine (HHEX.out _).mono ?_
    rintro e w3 ⟨rfl, hb3⟩
    have hb := HB1.out.trans (hb3.mono (by simpa using hbs))
    clear hb3
    have hB := tok_cell hb
    have HB := Lib.hid (tok_below hb)
    have hg := HB.out.size
    have c0 := hB.cell 0
    have c1 := hB.cell 1
    have c2 := hB.cell 2
    have c3 := hB.cell 3
    have c4 := hB.cell 4
    have f0 := hB.frozen 0
    have f1 := hB.frozen 1
    have f2 := hB.frozen 2
    have f3 := hB.frozen 3
    have f4 := hB.frozen 4
    clear hb hB
    simp only [List.getElem?_toArray, List.getElem?_cons_zero, List.getElem?_cons_succ] at c0 c1 c2 c3 c4
    go_wp2_with fail
    exact bodyPost_ret (v := .tuple #[.agg #[.int .i64 0, .int .i64 0, .int .i64 0, .int .i64 0, .string ⟨#[]⟩], .int .i64 R.err]) (by simp [results, Tryz.results45, go_sem, c0, c1, c2, c3, c4]) rfl ⟨rfl, set_below (set_below (set_below (set_below (set_below HB.out _ _) _ _) _ _) _ _) _ _⟩

end
end Go.Proofs.YtdpbpdikgcepbaaGreatDoor
namespace Go.Proofs.YtdpbpdikgcepbaaGreatDoor
open Go.RowKit Oct Fix Lex

section
variable (s : ByteArray) (i : Nat) (w : World) (hs : s.size ≤ 100000) (hi : i < s.size)
include hs hi

set_option maxRecDepth 100000 in
set_option maxHeartbeats 4000000 in
theorem tok_word_ok (k n c : Int) (b : ByteArray) (p : Nat) (hc : s[i] ≠ 60 ∧ s[i] ≠ 62 ∧ s[i] ≠ 91 ∧ s[i] ≠ 93 ∧ s[i] ≠ 123 ∧ s[i] ≠ 125 ∧ s[i] ≠ 41 ∧ s[i] ≠ 47 ∧ s[i] ≠ 40) (hp : i ≤ p) (hps : p ≤ s.size) (hcc : c = 0)
    (hrun : ∀ W : World, Calls Tryz.prog 72 #[.string s, .int .i64 (i : Int)] W fun e w' => e = .returned (.int .i64 (p : Int)) ∧ W = w')
    (hword : ∀ W : World, Calls Tryz.prog 76 #[.string (s.extract i p)] W fun e w' => e = .returned (.tuple #[.agg #[.int .i64 k, .int .i64 0, .int .i64 0, .int .i64 n, .string b], .int .i64 c]) ∧ Below W.heap.size W w') :
    Calls Tryz.prog 45 #[.string s, .int .i64 (i : Int)] w fun e w' => e = .returned (.tuple #[.agg #[.int .i64 k, .int .i64 (i : Int), .int .i64 (p : Int), .int .i64 n, .string b], .int .i64 0]) ∧ Below w.heap.size w w' := by
  have _hs := hs
  have i0 : (0 : Int) ≤ (i : Int) := by omega
  have i1 : (i : Int) < (s.size : Int) := by omega
  have b60 : ((s[i].toNat : Int) == 60) = false := byte_isnt (n := 60) (by decide) (by simp_all)
  have b62 : ((s[i].toNat : Int) == 62) = false := byte_isnt (n := 62) (by decide) (by simp_all)
  have b91 : ((s[i].toNat : Int) == 91) = false := byte_isnt (n := 91) (by decide) (by simp_all)
  have b93 : ((s[i].toNat : Int) == 93) = false := byte_isnt (n := 93) (by decide) (by simp_all)
  have b123 : ((s[i].toNat : Int) == 123) = false := byte_isnt (n := 123) (by decide) (by simp_all)
  have b125 : ((s[i].toNat : Int) == 125) = false := byte_isnt (n := 125) (by decide) (by simp_all)
  have b41 : ((s[i].toNat : Int) == 41) = false := byte_isnt (n := 41) (by decide) (by simp_all)
  have b47 : ((s[i].toNat : Int) == 47) = false := byte_isnt (n := 47) (by decide) (by simp_all)
  have b40 : ((s[i].toNat : Int) == 40) = false := byte_isnt (n := 40) (by decide) (by simp_all)
  have q1 : (i : Int) ≤ (p : Int) := by omega
  have bc : (c != 0) = false := by simp [hcc]
  have HRUN := Lib.hid hrun
  have HWORD := Lib.hid hword
  clear hrun hword hcc
  clear hc
  have dbl : ((i : Int) + 1 < (s.size : Int) ∧ (0 : Int) ≤ (i : Int) + 1) ∨ ¬ (i : Int) + 1 < (s.size : Int) := by omega
  rcases dbl with ⟨l1, l2⟩ | l1
  all_goals
    go_enter Tryz.func45, Tryz.ntmps45
    go_wp2_with fail
    refine (HRUN.out _).mono ?_
    rintro e w' ⟨rfl, rfl⟩
    go_wp2_with fail
    refine (HWORD.out _).mono ?_
    rintro e w2 ⟨rfl, hb⟩
    simp at hb
    have hB := tok_cell hb
    have HBl := Lib.hid (tok_below hb)
    have hg := HBl.out.size
    have hg1 : w.heap.size < w2.heap.size := by have := hb.size; simp at this; omega
    have HK := Lib.hid hB
    clear hb hB
    go_upto_region 24 with (fail)
    obtain ⟨w3, hw3⟩ : ∃ w3, w2.alloc (.cells #[.int .i64 k, .int .i64 0, .int .i64 0, .int .i64 n, .string b] 42) = w3 := ⟨_, rfl⟩
    have hX : Blk w3 w2.heap.size 42 #[.int .i64 k, .int .i64 0, .int .i64 0, .int .i64 n, .string b] := by rw [← hw3]; exact Blk.new _ _ _
    have hB : Blk w3 w.heap.size 42 #[.int .i64 0, .int .i64 0, .int .i64 0, .int .i64 0, .string ⟨#[]⟩] := by rw [← hw3]; exact HK.out.alloc _
    have HB := Lib.hid (show Below w.heap.size w w3 by rw [← hw3]; exact HBl.out.alloc hg _)
    rw [hw3]
    clear hw3
    obtain ⟨g2, hg2⟩ : ∃ g2, w2.heap.size = g2 := ⟨_, rfl⟩
    rw [hg2] at hX hg1 ⊢
    obtain ⟨g1, hg3⟩ : ∃ g1, w.heap.size = g1 := ⟨_, rfl⟩
    have hgg : Hid (w.heap.size = g1) := Lib.hid hg3
    rw [hg3] at hB hg1
    simp only [hg3]
    clear hg2 hg3
    have hne : ¬ g1 = g2 := by omega
    have hne2 : ¬ g2 = g1 := by omega
    have x0 := hX.cell 0
    have x1 := hX.cell 1
    have x2 := hX.cell 2
    have x3 := hX.cell 3
    have x4 := hX.cell 4
    have y0 := hX.frozen 0
    have y1 := hX.frozen 1
    have y2 := hX.frozen 2
    have y3 := hX.frozen 3
    have y4 := hX.frozen 4
    simp only [List.getElem?_toArray, List.getElem?_cons_zero, List.getElem?_cons_succ] at x0 x1 x2 x3 x4
    have HXk := Lib.hid hX
    have HBk := Lib.hid hB
    have c0 := hB.cell 0
    have c1 := hB.cell 1
    have c2 := hB.cell 2
    have c3 := hB.cell 3
    have c4 := hB.cell 4
    have f0 := hB.frozen 0
    have f1 := hB.frozen 1
    have f2 := hB.frozen 2
    have f3 := hB.frozen 3
    have f4 := hB.frozen 4
    clear hB hX
    simp only [List.getElem?_toArray, List.getElem?_cons_zero, List.getElem?_cons_succ] at c0 c1 c2 c3 c4
    go_upto_region 26 with (fail)
    go_upto_region 27 with (fail)
    go_upto_region 28 with (fail)
    clear x0 x1 x2 x3 x4 y0 y1 y2 y3 y4 c0 c1 c2 c3 c4 f0 f1 f2 f3 f4
    obtain ⟨w4, hw4⟩ : ∃ w4, (w3.setCell ⟨g2, 1, none⟩ (.int .i64 (i : Int))).setCell ⟨g2, 2, none⟩ (.int .i64 (p : Int)) = w4 := ⟨_, rfl⟩
    have hX : Blk w4 g2 42 #[.int .i64 k, .int .i64 (i : Int), .int .i64 (p : Int), .int .i64 n, .string b] := by rw [← hw4]; exact (HXk.out.set_ 1 _).set_ 2 _
    have hB : Blk w4 g1 42 #[.int .i64 0, .int .i64 0, .int .i64 0, .int .i64 0, .string ⟨#[]⟩] := by rw [← hw4]; exact (HBk.out.far hne _).far hne _
    have hgl2 : w.heap.size ≤ g2 := by have := hgg.out; omega
    have HB := Lib.hid (show Below w.heap.size w w4 by rw [← hw4]; exact set_below (set_below HB.out _ _) _ _)
    rw [hw4]
    clear hw4
    have x0 := hX.cell 0
    have x1 := hX.cell 1
    have x2 := hX.cell 2
    have x3 := hX.cell 3
    have x4 := hX.cell 4
    simp only [List.getElem?_toArray, List.getElem?_cons_zero, List.getElem?_cons_succ] at x0 x1 x2 x3 x4
    have c0 := hB.cell 0
    have c1 := hB.cell 1
    have c2 := hB.cell 2
    have c3 := hB.cell 3
    have c4 := hB.cell 4
    have f0 := hB.frozen 0
    have f1 := hB.frozen 1
    have f2 := hB.frozen 2
    have f3 := hB.frozen 3
    have f4 := hB.frozen 4
    clear hB hX
    simp only [List.getElem?_toArray, List.getElem?_cons_zero, List.getElem?_cons_succ] at c0 c1 c2 c3 c4
    go_wp2_with fail
    have hgl : w.heap.size ≤ g1 := Nat.le_of_eq hgg.out
    exact bodyPost_ret (v := .tuple #[.agg #[.int .i64 k, .int .i64 (i : Int), .int .i64 (p : Int), .int .i64 n, .string b], .int .i64 0]) (by simp [results, Tryz.results45, go_sem, c0, c1, c2, c3, c4]) rfl ⟨rfl, set_below (set_below (set_below (set_below (set_below HB.out _ _) _ _) _ _) _ _) _ _⟩

end
end Go.Proofs.YtdpbpdikgcepbaaGreatDoor
namespace Go.Proofs.YtdpbpdikgcepbaaGreatDoor
open Go.RowKit Oct Fix Lex

section
variable (s : ByteArray) (i : Nat) (w : World) (hs : s.size ≤ 100000) (hi : i < s.size)
include hs hi

set_option maxRecDepth 100000 in
set_option maxHeartbeats 4000000 in
theorem tok_word_bad (k n c : Int) (b : ByteArray) (p : Nat) (hc : s[i] ≠ 60 ∧ s[i] ≠ 62 ∧ s[i] ≠ 91 ∧ s[i] ≠ 93 ∧ s[i] ≠ 123 ∧ s[i] ≠ 125 ∧ s[i] ≠ 41 ∧ s[i] ≠ 47 ∧ s[i] ≠ 40) (hp : i ≤ p) (hps : p ≤ s.size) (hcc : c ≠ 0)
    (hrun : ∀ W : World, Calls Tryz.prog 72 #[.string s, .int .i64 (i : Int)] W fun e w' => e = .returned (.int .i64 (p : Int)) ∧ W = w')
    (hword : ∀ W : World, Calls Tryz.prog 76 #[.string (s.extract i p)] W fun e w' => e = .returned (.tuple #[.agg #[.int .i64 k, .int .i64 0, .int .i64 0, .int .i64 n, .string b], .int .i64 c]) ∧ Below W.heap.size W w') :
    Calls Tryz.prog 45 #[.string s, .int .i64 (i : Int)] w fun e w' => e = .returned (.tuple #[.agg #[.int .i64 0, .int .i64 0, .int .i64 0, .int .i64 0, .string ⟨#[]⟩], .int .i64 c]) ∧ Below w.heap.size w w' := by
  have _hs := hs
  have i0 : (0 : Int) ≤ (i : Int) := by omega
  have i1 : (i : Int) < (s.size : Int) := by omega
  have b60 : ((s[i].toNat : Int) == 60) = false := byte_isnt (n := 60) (by decide) (by simp_all)
  have b62 : ((s[i].toNat : Int) == 62) = false := byte_isnt (n := 62) (by decide) (by simp_all)
  have b91 : ((s[i].toNat : Int) == 91) = false := byte_isnt (n := 91) (by decide) (by simp_all)
  have b93 : ((s[i].toNat : Int) == 93) = false := byte_isnt (n := 93) (by decide) (by simp_all)
  have b123 : ((s[i].toNat : Int) == 123) = false := byte_isnt (n := 123) (by decide) (by simp_all)
  have b125 : ((s[i].toNat : Int) == 125) = false := byte_isnt (n := 125) (by decide) (by simp_all)
  have b41 : ((s[i].toNat : Int) == 41) = false := byte_isnt (n := 41) (by decide) (by simp_all)
  have b47 : ((s[i].toNat : Int) == 47) = false := byte_isnt (n := 47) (by decide) (by simp_all)
  have b40 : ((s[i].toNat : Int) == 40) = false := byte_isnt (n := 40) (by decide) (by simp_all)
  have q1 : (i : Int) ≤ (p : Int) := by omega
  have bc : (c != 0) = true := by simpa using hcc
  have HRUN := Lib.hid hrun
  have HWORD := Lib.hid hword
  clear hrun hword hcc
  clear hc
  have dbl : ((i : Int) + 1 < (s.size : Int) ∧ (0 : Int) ≤ (i : Int) + 1) ∨ ¬ (i : Int) + 1 < (s.size : Int) := by omega
  rcases dbl with ⟨l1, l2⟩ | l1
  all_goals
    go_enter Tryz.func45, Tryz.ntmps45
    go_wp2_with fail
    refine (HRUN.out _).mono ?_
    rintro e w' ⟨rfl, rfl⟩
    go_wp2_with fail
    refine (HWORD.out _).mono ?_
    rintro e w2 ⟨rfl, hb⟩
    simp at hb
    have hB := tok_cell hb
    have HBl := Lib.hid (tok_below hb)
    have hg := HBl.out.size
    have hg1 : w.heap.size < w2.heap.size := by have := hb.size; simp at this; omega
    have HK := Lib.hid hB
    clear hb hB
    go_upto_region 24 with (fail)
    obtain ⟨w3, hw3⟩ : ∃ w3, w2.alloc (.cells #[.int .i64 k, .int .i64 0, .int .i64 0, .int .i64 n, .string b] 42) = w3 := ⟨_, rfl⟩
    have hX : Blk w3 w2.heap.size 42 #[.int .i64 k, .int .i64 0, .int .i64 0, .int .i64 n, .string b] := by rw [← hw3]; exact Blk.new _ _ _
    have hB : Blk w3 w.heap.size 42 #[.int .i64 0, .int .i64 0, .int .i64 0, .int .i64 0, .string ⟨#[]⟩] := by rw [← hw3]; exact HK.out.alloc _
    have HB := Lib.hid (show Below w.heap.size w w3 by rw [← hw3]; exact HBl.out.alloc hg _)
    rw [hw3]
    clear hw3
    obtain ⟨g2, hg2⟩ : ∃ g2, w2.heap.size = g2 := ⟨_, rfl⟩
    rw [hg2] at hX hg1 ⊢
    obtain ⟨g1, hg3⟩ : ∃ g1, w.heap.size = g1 := ⟨_, rfl⟩
    have hgg : Hid (w.heap.size = g1) := Lib.hid hg3
    rw [hg3] at hB hg1
    simp only [hg3]
    clear hg2 hg3
    have hne : ¬ g1 = g2 := by omega
    have hne2 : ¬ g2 = g1 := by omega
    have x0 := hX.cell 0
    have x1 := hX.cell 1
    have x2 := hX.cell 2
    have x3 := hX.cell 3
    have x4 := hX.cell 4
    have y0 := hX.frozen 0
    have y1 := hX.frozen 1
    have y2 := hX.frozen 2
    have y3 := hX.frozen 3
    have y4 := hX.frozen 4
    simp only [List.getElem?_toArray, List.getElem?_cons_zero, List.getElem?_cons_succ] at x0 x1 x2 x3 x4
    have c0 := hB.cell 0
    have c1 := hB.cell 1
    have c2 := hB.cell 2
    have c3 := hB.cell 3
    have c4 := hB.cell 4
    have f0 := hB.frozen 0
    have f1 := hB.frozen 1
    have f2 := hB.frozen 2
    have f3 := hB.frozen 3
    have f4 := hB.frozen 4
    clear hB hX
    simp only [List.getElem?_toArray, List.getElem?_cons_zero, List.getElem?_cons_succ] at c0 c1 c2 c3 c4
    go_upto_region 25 with (fail)
    clear x0 x1 x2 x3 x4 y0 y1 y2 y3 y4
    go_wp2_with fail
    have hgl : w.heap.size ≤ g1 := Nat.le_of_eq hgg.out
    exact bodyPost_ret (v := .tuple #[.agg #[.int .i64 0, .int .i64 0, .int .i64 0, .int .i64 0, .string ⟨#[]⟩], .int .i64 c]) (by simp [results, Tryz.results45, go_sem, c0, c1, c2, c3, c4]) rfl ⟨rfl, set_below (set_below (set_below (set_below (set_below HB.out _ _) _ _) _ _) _ _) _ _⟩

end
end Go.Proofs.YtdpbpdikgcepbaaGreatDoor
namespace Go.Proofs.YtdpbpdikgcepbaaGreatDoor
open Go.RowKit Oct Fix Lex

theorem token_rany (s : ByteArray) (i : Nat) (R : TR) (w : World) (hs : s.size ≤ 100000) (hi : i < s.size) (hR : tokR (s.data.toList.drop i) = R) :
    Calls Tryz.prog 45 #[.string s, .int .i64 (i : Int)] w fun e w' => e = .returned (.tuple #[.agg #[.int .i64 R.kind, .int .i64 (tA i R), .int .i64 (tT i R), .int .i64 R.num, .string (tS R)], .int .i64 R.err]) ∧ Below w.heap.size w w' := by
  rw [drop_cons s i hi, tokR] at hR
  by_cases c1 : s[i] = 91
  · rw [if_pos c1] at hR
    exact (tok_one91 s i w hs hi c1).mono fun e w' ⟨e1, e2⟩ => ⟨e1.trans (tok_ok (n := 1) (hR.symm.trans (by unfold Lex.mark; rw [one_text s i hi, c1]; rfl)) rfl (by go_num)), e2⟩
  rw [if_neg c1] at hR
  by_cases c2 : s[i] = 93
  · rw [if_pos c2] at hR
    exact (tok_one93 s i w hs hi c2).mono fun e w' ⟨e1, e2⟩ => ⟨e1.trans (tok_ok (n := 1) (hR.symm.trans (by unfold Lex.mark; rw [one_text s i hi, c2]; rfl)) rfl (by go_num)), e2⟩
  rw [if_neg c2] at hR
  by_cases c3 : s[i] = 123
  · rw [if_pos c3] at hR
    exact (tok_one123 s i w hs hi c3).mono fun e w' ⟨e1, e2⟩ => ⟨e1.trans (tok_ok (n := 1) (hR.symm.trans (by unfold Lex.mark; rw [one_text s i hi, c3]; rfl)) rfl (by go_num)), e2⟩
  rw [if_neg c3] at hR
  by_cases c4 : s[i] = 125
  · rw [if_pos c4] at hR
    exact (tok_one125 s i w hs hi c4).mono fun e w' ⟨e1, e2⟩ => ⟨e1.trans (tok_ok (n := 1) (hR.symm.trans (by unfold Lex.mark; rw [one_text s i hi, c4]; rfl)) rfl (by go_num)), e2⟩
  rw [if_neg c4] at hR
  by_cases c5 : s[i] = 60
  · rw [if_pos c5] at hR
    by_cases hh : (s.data.toList.drop (i + 1)).head? = some 60
    · rw [if_pos hh] at hR
      obtain ⟨t1, t2⟩ := two_text s i 60 hi c5 hh
      exact (tok_dbl60 s i w hs hi c5 (by omega) ((head_next s i 60 (by omega)).1 hh)).mono fun e w' ⟨e1, e2⟩ => ⟨e1.trans (tok_ok (n := 2) (hR.symm.trans (by unfold Lex.mark; rw [t1]; rfl)) rfl (by go_num)), e2⟩
    · rw [if_neg hh] at hR
      have hd : ∀ h : i + 1 < s.size, s[i + 1] ≠ 60 := fun h e => hh ((head_next s i 60 h).2 e)
      obtain ⟨R2, h2⟩ : ∃ R2, litR (s.data.toList.drop (i + 1)) = R2 := ⟨_, rfl⟩
      have ht := fun W : World => text_rany s i ((i : Int) + 1) R2 W hi (by omega) rfl h2
      have hx := fun W : World => hex_rany s i ((i : Int) + 1) R W hi (by omega) rfl hR
      rcases hexR_norm (s.data.toList.drop (i + 1)) with ⟨n, x, e⟩ | ⟨c, hc, e⟩
      · have eR : R = ⟨0, 3, n, 0, x⟩ := hR.symm.trans e
        exact (tok_hex_ok s i w hs hi R c5 (by rw [eR]) R2 hd ht hx).mono fun e w' ⟨e1, e2⟩ => ⟨by rw [e1, eR]; rfl, e2⟩
      · have eR : R = bad c := hR.symm.trans e
        exact (tok_hex_bad s i w hs hi R c5 (by rw [eR]; exact hc) R2 hd ht hx).mono fun e w' ⟨e1, e2⟩ => ⟨e1.trans (by rw [eR]; exact tok_bad rfl hc), e2⟩
  rw [if_neg c5] at hR
  by_cases c6 : s[i] = 62
  · rw [if_pos c6] at hR
    by_cases hh : (s.data.toList.drop (i + 1)).head? = some 62
    · rw [if_pos hh] at hR
      obtain ⟨t1, t2⟩ := two_text s i 62 hi c6 hh
      exact (tok_dbl62 s i w hs hi c6 (by omega) ((head_next s i 62 (by omega)).1 hh)).mono fun e w' ⟨e1, e2⟩ => ⟨e1.trans (tok_ok (n := 2) (hR.symm.trans (by unfold Lex.mark; rw [t1]; rfl)) rfl (by go_num)), e2⟩
    · rw [if_neg hh] at hR
      exact (tok_gt s i w hs hi c6 fun h e => hh ((head_next s i 62 h).2 e)).mono fun e w' ⟨e1, e2⟩ => ⟨e1.trans (tok_bad hR.symm (by decide)), e2⟩
  rw [if_neg c6] at hR
  by_cases c7 : s[i] = 41
  · rw [if_pos c7] at hR
    exact (tok_close s i w hs hi c7).mono fun e w' ⟨e1, e2⟩ => ⟨e1.trans (tok_bad hR.symm (by decide)), e2⟩
  rw [if_neg c7] at hR
  by_cases c8 : s[i] = 40
  · rw [if_pos c8] at hR
    have ht := fun W : World => text_rany s i ((i : Int) + 1) R W hi (by omega) rfl hR
    rcases litR_norm (s.data.toList.drop (i + 1)) with ⟨n, x, e⟩ | ⟨c, hc, e⟩
    · have eR : R = ⟨0, 3, n, 0, x⟩ := hR.symm.trans e
      exact (tok_text_ok s i w hs hi R c8 (by rw [eR]) ht).mono fun e w' ⟨e1, e2⟩ => ⟨by rw [e1, eR]; rfl, e2⟩
    · have eR : R = bad c := hR.symm.trans e
      exact (tok_text_bad s i w hs hi R c8 (by rw [eR]; exact hc) ht).mono fun e w' ⟨e1, e2⟩ => ⟨e1.trans (by rw [eR]; exact tok_bad rfl hc), e2⟩
  rw [if_neg c8] at hR
  by_cases c9 : s[i] = 47
  · rw [if_pos c9] at hR
    have hr := runN_le s (i + 1) (by omega)
    have hrun := fun W : World => run_r s (i + 1) W (by omega) (by omega)
    have hdec := fun W : World => name_r (s.extract (i + 1) (i + 1 + runN s (i + 1))) W (by rw [ByteArray.size_extract]; omega)
    have hl := name_dec s i
    cases hx : decL (runL (s.data.toList.drop (i + 1))) with
    | none =>
      obtain ⟨h1, h2⟩ := dec_none (s := s.extract (i + 1) (i + 1 + runN s (i + 1))) (by rw [hl]; exact hx)
      rw [h1, h2] at hdec
      exact (tok_name_bad s i w hs hi _ 3 _ c9 (by omega) hr (by decide) hrun hdec).mono fun e w' ⟨e1, e2⟩ => ⟨e1.trans (tok_bad (hR.symm.trans (nameR_none hx)) (by decide)), e2⟩
    | some x =>
      by_cases hlx : 127 < x.length
      · obtain ⟨h1, h2⟩ := dec_long (s := s.extract (i + 1) (i + 1 + runN s (i + 1))) (by rw [hl]; exact hx) hlx
        rw [h1, h2] at hdec
        exact (tok_name_bad s i w hs hi _ 5 _ c9 (by omega) hr (by decide) hrun hdec).mono fun e w' ⟨e1, e2⟩ => ⟨e1.trans (tok_bad (hR.symm.trans (nameR_long hx hlx)) (by decide)), e2⟩
      · obtain ⟨h1, h2⟩ := dec_some (s := s.extract (i + 1) (i + 1 + runN s (i + 1))) (by rw [hl]; exact hx) hlx
        rw [h1, h2] at hdec
        exact (tok_name_ok s i w hs hi _ 0 _ c9 (by omega) hr rfl hrun hdec).mono fun e w' ⟨e1, e2⟩ => ⟨e1.trans (tok_ok (n := 1 + runN s (i + 1)) (hR.symm.trans (nameR_some hx hlx)) rfl (by rw [Nat.add_assoc])), e2⟩
  rw [if_neg c9] at hR
  rw [← drop_cons s i hi] at hR
  have hr := runN_le s i (by omega)
  have hrun := fun W : World => run_r s i W (by omega) (by omega)
  have ht := run_text s i
  have hn : (runL (s.data.toList.drop i)).length = runN s i := rfl
  obtain ⟨k, n, b, hk, hw⟩ := word_r (s.extract i (i + runN s i)) R (by rw [ByteArray.size_extract]; omega) (by rw [ht]; exact hR)
  rcases word_norm (runL (s.data.toList.drop i)) with ⟨k', n', x, e⟩ | ⟨c, hc, e⟩
  · have eR := hR.symm.trans e
    have e0 : R.err = 0 := by rw [eR]
    obtain ⟨h1, h2, h3⟩ := hk e0
    exact (tok_word_ok s i w hs hi k n R.err b _ ⟨c5, c6, c1, c2, c3, c4, c7, c9, c8⟩ (by omega) hr e0 hrun hw).mono fun e w' ⟨e1, e2⟩ => ⟨e1.trans (tok_ok (n := runN s i) (by rw [h3, h1, h2, eR, hn]) rfl rfl), e2⟩
  · have eR := hR.symm.trans e
    have e0 : R.err = c := by rw [eR]; rfl
    simp only [e0] at hw
    exact (tok_word_bad s i w hs hi k n c b _ ⟨c5, c6, c1, c2, c3, c4, c7, c9, c8⟩ (by omega) hr hc hrun hw).mono fun e w' ⟨e1, e2⟩ => ⟨e1.trans (tok_bad eR hc), e2⟩

section
variable (s : ByteArray) (a : Int) (i : Nat) (w : World) (h0 : 0 ≤ a) (h1 : a ≤ (s.size : Int))
  (hskip : ∀ W : World, Calls Tryz.prog 44 #[.string s, .int .i64 a] W fun e w' => e = .returned (.int .i64 (i : Int)) ∧ W = w')
include h0 h1 hskip

set_option maxHeartbeats 1000000 in
theorem nextR_end (hi : i = s.size) :
    Calls Tryz.prog 27 #[.string s, .int .i64 a] w fun e w' => e = .returned (.tuple #[.agg #[.int .i64 0, .int .i64 (s.size : Int), .int .i64 (s.size : Int), .int .i64 0, .string ⟨#[]⟩], .int .i64 0]) ∧ Below w.heap.size w w' := by
  have HSKIP := Lib.hid hskip
  have bq : (s.size : Int) ≤ (i : Int) := by omega
  clear hskip hi
  go_enter Tryz.func27, Tryz.ntmps27
  go_wp2_with fail
  refine (HSKIP.out _).mono ?_
  rintro e w' ⟨rfl, rfl⟩
  go_wp2_with fail
  exact bodyPost_ret (v := .tuple #[.agg #[.int .i64 0, .int .i64 (s.size : Int), .int .i64 (s.size : Int), .int .i64 0, .string ⟨#[]⟩], .int .i64 0]) (by simp [results, Tryz.results27, go_sem]) rfl ⟨rfl, below_tok _ _ _⟩

set_option maxHeartbeats 1000000 in
theorem nextR_tok (R : TR) (hi : i < s.size)
    (hcall : ∀ W : World, Calls Tryz.prog 45 #[.string s, .int .i64 (i : Int)] W fun e w' => e = .returned (.tuple #[.agg #[.int .i64 R.kind, .int .i64 (tA i R), .int .i64 (tT i R), .int .i64 R.num, .string (tS R)], .int .i64 R.err]) ∧ Below W.heap.size W w') :
    Calls Tryz.prog 27 #[.string s, .int .i64 a] w fun e w' => e = .returned (.tuple #[.agg #[.int .i64 R.kind, .int .i64 (tA i R), .int .i64 (tT i R), .int .i64 R.num, .string (tS R)], .int .i64 R.err]) ∧ Below w.heap.size w w' := by
  have HSKIP := Lib.hid hskip
  have HCALL := Lib.hid hcall
  have bq : ¬ (s.size : Int) ≤ (i : Int) := by omega
  clear hskip hcall
  go_enter Tryz.func27, Tryz.ntmps27
  go_wp2_with fail
  refine (HSKIP.out _).mono ?_
  rintro e w' ⟨rfl, rfl⟩
  go_wp2_with fail
  refine (HCALL.out _).mono ?_
  rintro e w2 ⟨rfl, hb⟩
  simp at hb
  have hB := tok_cell hb
  have HB := Lib.hid (tok_below hb)
  have hg := HB.out.size
  have c0 := hB.cell 0
  have c1 := hB.cell 1
  have c2 := hB.cell 2
  have c3 := hB.cell 3
  have c4 := hB.cell 4
  have f0 := hB.frozen 0
  have f1 := hB.frozen 1
  have f2 := hB.frozen 2
  have f3 := hB.frozen 3
  have f4 := hB.frozen 4
  clear hb hB
  simp only [List.getElem?_toArray, List.getElem?_cons_zero, List.getElem?_cons_succ] at c0 c1 c2 c3 c4
  go_wp2_with fail
  exact bodyPost_ret (v := .tuple #[.agg #[.int .i64 R.kind, .int .i64 (tA i R), .int .i64 (tT i R), .int .i64 R.num, .string (tS R)], .int .i64 R.err]) (by simp [results, Tryz.results27, go_sem, c0, c1, c2, c3, c4]) rfl ⟨rfl, set_below (set_below (set_below (set_below (set_below HB.out _ _) _ _) _ _) _ _) _ _⟩
end

theorem nextR_any (s : ByteArray) (a : Int) (w : World) (hs : s.size ≤ 100000) :
    Calls Tryz.prog 27 #[.string s, .int .i64 a] w fun e w' => e = .returned (.tuple #[.agg #[.int .i64 (nxR s.data.toList a).kind, .int .i64 (tA (nxI s.data.toList a) (nxR s.data.toList a)), .int .i64 (tT (nxI s.data.toList a) (nxR s.data.toList a)), .int .i64 (nxR s.data.toList a).num, .string (tS (nxR s.data.toList a))], .int .i64 (nxR s.data.toList a).err]) ∧ Below w.heap.size w w' := by
  have hsl : s.data.toList.length = s.size := by simp
  by_cases h : a < 0 ∨ (s.size : Int) < a
  · have hR : nxR s.data.toList a = bad 1 := by unfold nxR; rw [if_pos (by rw [hsl]; exact h)]
    suffices H : Calls Tryz.prog 27 #[.string s, .int .i64 a] w fun e w' => e = .returned (.tuple #[.agg #[.int .i64 0, .int .i64 0, .int .i64 0, .int .i64 0, .string ⟨#[]⟩], .int .i64 1]) ∧ Below w.heap.size w w' from H.mono fun e w' ⟨e1, e2⟩ => ⟨e1.trans (tok_bad hR (by decide)), e2⟩
    clear hR
    rcases h with h | h
    · go_enter Tryz.func27, Tryz.ntmps27
      go_wp2_with fail
      exact bodyPost_ret (v := .tuple #[.agg #[.int .i64 0, .int .i64 0, .int .i64 0, .int .i64 0, .string ⟨#[]⟩], .int .i64 1]) (by simp [results, Tryz.results27, go_sem]) rfl ⟨rfl, below_tok _ _ _⟩
    · have h' : ¬ a < 0 := by omega
      go_enter Tryz.func27, Tryz.ntmps27
      go_wp2_with fail
      exact bodyPost_ret (v := .tuple #[.agg #[.int .i64 0, .int .i64 0, .int .i64 0, .int .i64 0, .string ⟨#[]⟩], .int .i64 1]) (by simp [results, Tryz.results27, go_sem]) rfl ⟨rfl, below_tok _ _ _⟩
  · have h0 : 0 ≤ a := by omega
    have h1 : a ≤ (s.size : Int) := by omega
    obtain ⟨hk, hi⟩ := skip_next s a h0 h1
    have hR : nxR s.data.toList a = tokR (s.data.toList.drop (nxI s.data.toList a)) := by unfold nxR; rw [if_neg (by rw [hsl]; exact h)]; rfl
    have hskip := fun W : World => skip_r s a W (by omega)
    rw [hk] at hskip
    obtain ⟨i, hii⟩ : ∃ i, nxI s.data.toList a = i := ⟨_, rfl⟩
    obtain ⟨R, hRR⟩ : ∃ R, nxR s.data.toList a = R := ⟨_, rfl⟩
    rw [hii] at hi hR hskip
    rw [hRR] at hR
    rw [hii, hRR]
    by_cases hlt : i < s.size
    · exact nextR_tok s a i w h0 h1 hskip R hlt fun W => token_rany s i R W hs hlt hR.symm
    · have ei : i = s.size := by omega
      rw [List.drop_eq_nil_of_le (by rw [hsl]; omega), tokR] at hR
      exact (nextR_end s a i w h0 h1 hskip ei).mono fun e w' ⟨e1, e2⟩ => ⟨e1.trans (tok_ok (n := 0) (b := ⟨#[]⟩) hR (by rw [ei]) (by rw [ei]; rfl)), e2⟩
end Go.Proofs.YtdpbpdikgcepbaaGreatDoor
