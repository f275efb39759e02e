/-
  The document's group and Five.
-/
import Derived.Test.YthioafndepkhoaaAscN
namespace Go.Proofs.Ythioafndepkhoaa
open Go.RowKit Oct Asc Go.Shelf
attribute [-go_sem] Builtin.append_

theorem grp_len (l : List UInt8) : (grp l).length = 4 := by unfold grp; rw [List.length_append, List.length_take, List.length_replicate]; omega
theorem grp_at (l : List UInt8) (k : Nat) (hk : k < 4) : (∃ h : k < l.length, (grp l)[k]'(by rw [grp_len]; exact hk) = l[k]) ∨ (l.length ≤ k ∧ (grp l)[k]'(by rw [grp_len]; exact hk) = 0) := by
  unfold grp
  rcases Nat.lt_or_ge k l.length with h | h
  · left
    refine ⟨h, ?_⟩
    rw [List.getElem_append_left (by rw [List.length_take]; omega), List.getElem_take]
  · right
    refine ⟨h, ?_⟩
    rw [List.getElem_append_right (by rw [List.length_take]; omega), List.getElem_replicate]
set_option maxRecDepth 100000 in
set_option maxHeartbeats 4000000 in
theorem group_in (p : ByteArray) (V : Nat) (w : World) (hp : p.size ≤ 4) (hV : val4 p.data.toList = V) :
    Calls Try.prog 29 #[.string p] w fun e w' => e = .returned (.int .u64 (V : Int)) ∧ w = w' := by
  have HV := Lib.hid (show v4 (grp p.data.toList) = V by rw [grp_val]; exact hV)
  have hl : p.data.toList.length = p.size := by simp
  have HL := Lib.hid hl
  clear hV hl
  go_enter Try.func29, Try.ntmps29
  go_wp2_with fail
  go_loopw [3, 4] (fun v i wr => ∃ k n1 : Nat, k ≤ 4 ∧ v = .int .u64 (n1 : Int) ∧ i = .int .i64 (k : Int) ∧ Hid (n1 = v4 ((grp p.data.toList).take k)) ∧ n1 < 256 ^ k ∧ wr = w) (fun _ i _ => 4 - (intOf i).toNat)
  case atStart => exact ⟨0, 0, by omega, rfl, rfl, Lib.hid rfl, by omega, rfl⟩
  case round =>
    obtain ⟨k, n1, hk, rfl, rfl, HN, hb, rfl⟩ := hrel
    by_cases hlt : k < 4
    · have i0 : (0 : Int) ≤ (k : Int) := by omega
      have i1 : (k : Int) < 4 := by omega
      have hm := v4_more (grp p.data.toList) k (by rw [grp_len]; exact hlt)
      rw [← HN.out] at hm
      have hnb : 256 * n1 + 255 < 256 ^ (k + 1) := by rw [Nat.pow_succ]; omega
      have hn32 : n1 < 4294967296 := by
        have : 256 ^ k ≤ 256 ^ 4 := Nat.pow_le_pow_right (by decide) (by omega)
        omega
      rcases grp_at p.data.toList k hlt with ⟨h, hg⟩ | ⟨h, hg⟩
      · rw [hg] at hm
        rw [HL.out] at h
        have i2 : (k : Int) < (p.size : Int) := by omega
        have i3 : k < p.size := h
        obtain ⟨c, hc⟩ : ∃ c, p[k] = c := ⟨_, rfl⟩
        have hm2 : v4 ((grp p.data.toList).take (k + 1)) = 256 * n1 + c.toNat := by rw [hm, ← hc]; rfl
        have hc255 : (c.toNat : Int) ≤ 255 := by have := c.toNat_lt; omega
        have HM := Lib.hid hm2
        have HNb := Lib.hid hnb
        clear hm hg hm2 hnb
        go_wp2_with fail
        go_roundw
        case rel => exact ⟨k + 1, 256 * n1 + c.toNat, by omega, by go_num, by go_num, Lib.hid HM.out.symm, by have := HNb.out; omega, trivial⟩
        case measure => simp [intOf]; omega
      · rw [hg] at hm
        rw [HL.out] at h
        have i2 : ¬ (k : Int) < (p.size : Int) := by omega
        have HM := Lib.hid hm
        have HNb := Lib.hid hnb
        clear hm hg hnb
        go_wp2_with fail
        go_roundw
        case rel => exact ⟨k + 1, 256 * n1, by omega, by go_num, by go_num, Lib.hid HM.out.symm, by have := HNb.out; omega, trivial⟩
        case measure => simp [intOf]; omega
    · obtain rfl : k = 4 := by omega
      have hn : n1 = V := by rw [HN.out, List.take_of_length_le (by rw [grp_len]; exact Nat.le_refl _)]; exact HV.out
      subst hn
      go_wp2_with fail
      go_ret
      exact ⟨rfl, rfl⟩

theorem five1_take (l : List UInt8) : five1 l = five1 (l.take 4) := by
  have hv : val4 l = val4 (l.take 4) := by
    unfold val4
    rw [List.take_take, Nat.min_self, List.length_take, show 4 - min 4 l.length = 4 - l.length by omega]
  have e1 : min 4 (min 4 l.length) = min 4 l.length := by omega
  unfold five1
  rw [hv, List.length_take]
  by_cases h : 4 ≤ l.length ∧ val4 (l.take 4) = 0
  · rw [if_pos h, if_pos ⟨by omega, h.2⟩]
  · rw [if_neg h, if_neg (fun h' => h ⟨by omega, h'.2⟩), e1]
def byL (k : Nat) : Int := match k with | 0 => 52200625 | 1 => 614125 | 2 => 7225 | 3 => 85 | 4 => 1 | _ => 0
/-- The document's Five, at byte i. -/
def FrTo (N : Nat) (w : World) (L l : List UInt8) (i : Nat) (o : List UInt8) (v : Value) (wr : World) : Prop :=
  wr.ownsRow N 5 1 v o.length (cellsOf o) ∧ Below N w wr ∧ L = o ++ fiveE (l.drop i) ∧ o.length ≤ 2 * i
/-- Its digits, k of them. -/
def FrDig (N : Nat) (w : World) (V q : Nat) (o : List UInt8) (k : Nat) (A : Option Addr) (C : Nat) (wr : World) : Prop :=
  wr.ownsRow N 5 1 (.slice A (q + k) C) (q + k) (cellsOf (o ++ (digs V).take k)) ∧ Below N w wr

set_option maxRecDepth 100000 in
set_option maxHeartbeats 16000000 in
theorem fiveR_any (s : ByteArray) (w : World) (hs : s.size ≤ 3000) :
    Calls Try.prog 14 #[.string s] w fun e w' => e = .returned (.string (⟨(fiveE s.data.toList).toArray⟩ ++ ⟨#[126, 62]⟩)) ∧ Below w.heap.size w w' := by
  obtain ⟨L, hL⟩ : ∃ L, fiveE s.data.toList = L := ⟨_, rfl⟩
  obtain ⟨N, hN⟩ : ∃ N, w.heap.size = N := ⟨_, rfl⟩
  have hl : s.data.toList.length = s.size := by simp
  have HLL := Lib.hid (show L.length ≤ 5000000 by
    rw [← hL]
    have := fiveE_len s.data.toList
    omega)
  rw [hL, hN]
  have hst := Lib.hid (show FrTo N w L s.data.toList 0 [] (.slice none 0 0) w from ⟨World.ownsRow_nil _ _ _ _, by rw [← hN]; exact Below.refl _ _, by rw [List.nil_append, List.drop_zero, hL], by simp⟩)
  have HNW := Lib.hid hN
  have HLn := Lib.hid hl
  clear hL hN hl
  go_enter Try.func14, Try.ntmps14
  go_wp2_with fail
  go_loopw [3, 4] (fun v iv wr => ∃ (i : Nat) (o : List UInt8), i ≤ s.size + 3 ∧ iv = .int .i64 (i : Int) ∧ Hid (FrTo N w L s.data.toList i o v wr)) (fun _ i _ => s.size + 3 - (intOf i).toNat)
  case atStart => exact ⟨0, [], by omega, rfl, hst⟩
  case round =>
    clear hst
    obtain ⟨i, o, hi, rfl, HR⟩ := hrel
    obtain ⟨h1, h2, h3, h4⟩ := HR.out
    obtain ⟨A, C, hv⟩ := own_form h1
    obtain ⟨q, hq⟩ : ∃ q, o.length = q := ⟨_, rfl⟩
    rw [hq] at hv h1 h4
    subst hv
    have HO := Lib.hid h1
    have HB := Lib.hid h2
    have HL := Lib.hid h3
    have HQ := Lib.hid hq
    clear HR
    by_cases hlt : i < s.size
    · have i0 : (0 : Int) ≤ (i : Int) := by omega
      have i1 : (i : Int) < (s.size : Int) := by omega
      obtain ⟨M, hM⟩ : ∃ M, min (i + 4) s.size = M := ⟨_, rfl⟩
      have hMi : min ((i : Int) + 4) (s.size : Int) = (M : Int) := by omega
      have hM1 : (i : Int) ≤ (M : Int) := by omega
      have hM2 : (M : Int) ≤ (s.size : Int) := by omega
      obtain ⟨P, hP⟩ : ∃ P, s.extract i M = P := ⟨_, rfl⟩
      have hPl : P.data.toList = (s.data.toList.drop i).take 4 := by
        rw [← hP, ByteArray.data_extract, Array.toList_extract, List.extract_eq_take_drop]
        rcases Nat.le_total (i + 4) s.size with h | h
        · rw [show M - i = 4 by omega]
        · rw [List.take_of_length_le (by rw [List.length_drop, HLn.out]; omega), List.take_of_length_le (by rw [List.length_drop, HLn.out]; omega)]
      have hPs : P.size = M - i := by rw [← hP, ByteArray.size_extract]; omega
      have hP4 : P.size ≤ 4 := by omega
      have hP1 : 1 ≤ P.size := by omega
      obtain ⟨V, hV⟩ : ∃ V, val4 P.data.toList = V := ⟨_, rfl⟩
      have HG := Lib.hid (fun W : World => group_in P V W hP4 hV)
      have HVl := Lib.hid (show V ≤ 4294967295 by rw [← hV]; exact val4_lt _)
      have hstep : L = o ++ (five1 P.data.toList ++ fiveE (s.data.toList.drop (i + 4))) := by
        rw [h3, fiveE_cons (l := s.data.toList.drop i) (by intro e; have := congrArg List.length e; rw [List.length_drop, HLn.out] at this; simp at this; omega), five1_take, ← hPl, List.drop_drop]
      have HSt := Lib.hid hstep
      have hPll : P.data.toList.length = P.size := by simp
      have hN2 : N ≤ wr.heap.size := by have := h2.size; rw [HNW.out] at this; exact this
      have HN2 := Lib.hid hN2
      have hgn : ∀ k, (V == 0) = false ∨ P.size ≠ 4 → k = P.size + 1 → five1 P.data.toList = (digs V).take k := fun k h hk => by
        unfold five1
        rw [hPll, hV, if_neg, hk, Nat.min_eq_right hP4]
        rintro ⟨a, b⟩
        rcases h with h | h
        · rw [b] at h; exact absurd h (by decide)
        · omega
      have HGn := Lib.hid hgn
      have hp4i : (P.size : Int) ≤ 4 := by omega
      have hp1i : (1 : Int) ≤ (P.size : Int) := by omega
      by_cases hz : V = 0 ∧ P.size = 4
      · obtain ⟨rfl, hp4⟩ := hz
        have hf : five1 P.data.toList = [122] := by unfold five1; rw [if_pos ⟨by omega, hV⟩]
        have hp4' : ((P.size : Int) == 4) = true := by rw [hp4]; rfl
        obtain ⟨g, cap, w3, hrun, hown3, hb3, _⟩ := app_one 122 wr HO.out HN2.out (by omega)
        have hrun2 : Sem.run Try.prog (Builtin.append_ #[30, 30] 30 #[.slice A q C, .slice (some ⟨wr.heap.size, 0, none⟩) 1 1]) (wr.alloc (.cells #[.int .u8 122] 5)) = .ok (.slice (some ⟨g, 0, none⟩) (q + 1) cap) w3 := hrun
        have hN3 := Lib.hid (show FrTo N w L s.data.toList (i + 4) (o ++ [122]) (.slice (some ⟨g, 0, none⟩) (q + 1) cap) w3 from by
          have hlen : (o ++ [(122 : UInt8)]).length = q + 1 := by rw [List.length_append, HQ.out]; rfl
          refine ⟨by rw [hlen]; exact hown3, HB.out.trans hb3, ?_, by rw [hlen]; omega⟩
          rw [HSt.out, hf, List.append_assoc])
        clear hrun hown3 hb3 hstep h1 h2 h3 hPl hV hf hq hgn hN2 hPll hM
        go_wp2_with (go_at_call 29; refine (HG.out _).mono ?_; rintro e w' ⟨rfl, rfl⟩)
        go_roundw
        case rel => exact ⟨i + 4, _, by omega, by go_num, hN3⟩
        case measure => simp [intOf]; omega
      · have HD0 := Lib.hid (show FrDig N w V q o 0 A C wr from ⟨by rw [List.take_zero, List.append_nil]; exact HO.out, HB.out⟩)
        have hdig : (V == 0) = false ∨ P.size ≠ 4 := by
          by_cases hv0 : V = 0
          · exact .inr (fun e => hz ⟨hv0, e⟩)
          · exact .inl (by simpa using hv0)
        have HDg := Lib.hid hdig
        have hguard : (((V : Int) == 0) && ((P.size : Int) == 4)) = false := by
          refine Bool.eq_false_iff.2 fun e => hz ?_
          rw [Bool.and_eq_true, beq_iff_eq, beq_iff_eq] at e
          exact ⟨by omega, by omega⟩
        clear hstep h1 h2 h3 hPl hV hq hgn hN2 hPll hM hz hdig
        by_cases hv0 : (V : Int) = 0
        · have hv1 : ((V : Int) == 0) = true := by simpa using hv0
          have hp4' : ((P.size : Int) == 4) = false := by rw [hv1, Bool.true_and] at hguard; exact hguard
          clear hguard hv0
          have hVb := HVl.out
          go_wp2_with (go_at_call 29; refine (HG.out _).mono ?_; rintro e w' ⟨rfl, rfl⟩)
          go_loopw [3, 7, 8] (fun v bv kv wr2 => ∃ (k : Nat) (A' : Option Addr) (C' : Nat), k ≤ P.size + 1 ∧ kv = .int .i64 (k : Int) ∧ bv = .int .u64 (byL k) ∧ v = .slice A' (q + k) C' ∧ Hid (FrDig N w V q o k A' C' wr2)) (fun _ _ k _ => P.size + 1 - (intOf k).toNat)
          case atStart => exact ⟨0, A, C, by omega, rfl, rfl, rfl, HD0⟩
          case round =>
            clear HD0
            obtain ⟨k, A', C', hk, rfl, rfl, rfl, HT⟩ := hrel
            obtain ⟨g1, g2⟩ := HT.out
            have hNs : N ≤ wr.heap.size := by have := g2.size; rw [HNW.out] at this; exact this
            by_cases hkt : k ≤ P.size
            · have hc : k = 0 ∨ k = 1 ∨ k = 2 ∨ k = 3 ∨ k = 4 := by omega
              rcases hc with rfl | rfl | rfl | rfl | rfl
              · have kt : (0 : Int) ≤ (P.size : Int) := by omega
                have hy : ((UInt8.ofNat (33 + V / 52200625 % 85)).toNat : Int) = 33 + (V : Int) / 52200625 % 85 := by rw [UInt8.toNat_ofNat']; omega
                obtain ⟨g, cap, w5, hrun, hown5, hb5, _⟩ := app_one (UInt8.ofNat (33 + V / 52200625 % 85)) wr g1 hNs (by omega)
                rw [hy] at hrun
                simp only [Nat.add_zero] at hrun
                have hd : (digs V).take 1 = (digs V).take 0 ++ [UInt8.ofNat (33 + V / 52200625 % 85)] := rfl
                have HN := Lib.hid (show FrDig N w V q o 1 (some ⟨g, 0, none⟩) cap w5 from ⟨by rw [hd, ← List.append_assoc]; exact hown5, g2.trans hb5⟩)
                clear g1 g2 hd hown5 hb5 hy
                rw [show byL 0 = 52200625 from rfl]
                go_wp2_with fail
                go_roundw
                case rel => exact ⟨1, some ⟨g, 0, none⟩, cap, by omega, by go_num, rfl, rfl, HN⟩
                case measure => simp [intOf] <;> omega
              · have kt : (1 : Int) ≤ (P.size : Int) := by omega
                have hy : ((UInt8.ofNat (33 + V / 614125 % 85)).toNat : Int) = 33 + (V : Int) / 614125 % 85 := by rw [UInt8.toNat_ofNat']; omega
                obtain ⟨g, cap, w5, hrun, hown5, hb5, _⟩ := app_one (UInt8.ofNat (33 + V / 614125 % 85)) wr g1 hNs (by omega)
                rw [hy] at hrun
                have hd : (digs V).take 2 = (digs V).take 1 ++ [UInt8.ofNat (33 + V / 614125 % 85)] := rfl
                have HN := Lib.hid (show FrDig N w V q o 2 (some ⟨g, 0, none⟩) cap w5 from ⟨by rw [hd, ← List.append_assoc]; exact hown5, g2.trans hb5⟩)
                clear g1 g2 hd hown5 hb5 hy
                rw [show byL 1 = 614125 from rfl]
                go_wp2_with fail
                go_roundw
                case rel => exact ⟨2, some ⟨g, 0, none⟩, cap, by omega, by go_num, rfl, rfl, HN⟩
                case measure => simp [intOf] <;> omega
              · have kt : (2 : Int) ≤ (P.size : Int) := by omega
                have hy : ((UInt8.ofNat (33 + V / 7225 % 85)).toNat : Int) = 33 + (V : Int) / 7225 % 85 := by rw [UInt8.toNat_ofNat']; omega
                obtain ⟨g, cap, w5, hrun, hown5, hb5, _⟩ := app_one (UInt8.ofNat (33 + V / 7225 % 85)) wr g1 hNs (by omega)
                rw [hy] at hrun
                have hd : (digs V).take 3 = (digs V).take 2 ++ [UInt8.ofNat (33 + V / 7225 % 85)] := rfl
                have HN := Lib.hid (show FrDig N w V q o 3 (some ⟨g, 0, none⟩) cap w5 from ⟨by rw [hd, ← List.append_assoc]; exact hown5, g2.trans hb5⟩)
                clear g1 g2 hd hown5 hb5 hy
                rw [show byL 2 = 7225 from rfl]
                go_wp2_with fail
                go_roundw
                case rel => exact ⟨3, some ⟨g, 0, none⟩, cap, by omega, by go_num, rfl, rfl, HN⟩
                case measure => simp [intOf] <;> omega
              · have kt : (3 : Int) ≤ (P.size : Int) := by omega
                have hy : ((UInt8.ofNat (33 + V / 85 % 85)).toNat : Int) = 33 + (V : Int) / 85 % 85 := by rw [UInt8.toNat_ofNat']; omega
                obtain ⟨g, cap, w5, hrun, hown5, hb5, _⟩ := app_one (UInt8.ofNat (33 + V / 85 % 85)) wr g1 hNs (by omega)
                rw [hy] at hrun
                have hd : (digs V).take 4 = (digs V).take 3 ++ [UInt8.ofNat (33 + V / 85 % 85)] := rfl
                have HN := Lib.hid (show FrDig N w V q o 4 (some ⟨g, 0, none⟩) cap w5 from ⟨by rw [hd, ← List.append_assoc]; exact hown5, g2.trans hb5⟩)
                clear g1 g2 hd hown5 hb5 hy
                rw [show byL 3 = 85 from rfl]
                go_wp2_with fail
                go_roundw
                case rel => exact ⟨4, some ⟨g, 0, none⟩, cap, by omega, by go_num, rfl, rfl, HN⟩
                case measure => simp [intOf] <;> omega
              · have kt : (4 : Int) ≤ (P.size : Int) := by omega
                have hy : ((UInt8.ofNat (33 + V % 85)).toNat : Int) = 33 + (V : Int) % 85 := by rw [UInt8.toNat_ofNat']; omega
                obtain ⟨g, cap, w5, hrun, hown5, hb5, _⟩ := app_one (UInt8.ofNat (33 + V % 85)) wr g1 hNs (by omega)
                rw [hy] at hrun
                have hd : (digs V).take 5 = (digs V).take 4 ++ [UInt8.ofNat (33 + V % 85)] := rfl
                have HN := Lib.hid (show FrDig N w V q o 5 (some ⟨g, 0, none⟩) cap w5 from ⟨by rw [hd, ← List.append_assoc]; exact hown5, g2.trans hb5⟩)
                clear g1 g2 hd hown5 hb5 hy
                rw [show byL 4 = 1 from rfl]
                go_wp2_with fail
                go_roundw
                case rel => exact ⟨5, some ⟨g, 0, none⟩, cap, by omega, by go_num, rfl, rfl, HN⟩
                case measure => simp [intOf] <;> omega
            · obtain rfl : k = P.size + 1 := by omega
              have kt : ¬ ((P.size : Int) + 1) ≤ (P.size : Int) := by omega
              have hN3 := Lib.hid (show FrTo N w L s.data.toList (i + 4) (o ++ (digs V).take (P.size + 1)) (.slice A' (q + (P.size + 1)) C') wr from by
                have hlen : (o ++ (digs V).take (P.size + 1)).length = q + (P.size + 1) := by rw [List.length_append, HQ.out, List.length_take]; show q + min (P.size + 1) 5 = _; omega
                refine ⟨by rw [hlen]; exact g1, g2, ?_, by rw [hlen]; omega⟩
                rw [HSt.out, HGn.out (P.size + 1) HDg.out rfl, List.append_assoc])
              clear g1 g2
              go_wp2_with fail
              go_roundw
              case rel => exact ⟨i + 4, _, by omega, by go_num, hN3⟩
              case measure => simp [intOf]; omega
        · have hv1 : ((V : Int) == 0) = false := by simpa using hv0
          clear hguard hv0
          have hVb := HVl.out
          go_wp2_with (go_at_call 29; refine (HG.out _).mono ?_; rintro e w' ⟨rfl, rfl⟩)
          go_loopw [3, 7, 8] (fun v bv kv wr2 => ∃ (k : Nat) (A' : Option Addr) (C' : Nat), k ≤ P.size + 1 ∧ kv = .int .i64 (k : Int) ∧ bv = .int .u64 (byL k) ∧ v = .slice A' (q + k) C' ∧ Hid (FrDig N w V q o k A' C' wr2)) (fun _ _ k _ => P.size + 1 - (intOf k).toNat)
          case atStart => exact ⟨0, A, C, by omega, rfl, rfl, rfl, HD0⟩
          case round =>
            clear HD0
            obtain ⟨k, A', C', hk, rfl, rfl, rfl, HT⟩ := hrel
            obtain ⟨g1, g2⟩ := HT.out
            have hNs : N ≤ wr.heap.size := by have := g2.size; rw [HNW.out] at this; exact this
            by_cases hkt : k ≤ P.size
            · have hc : k = 0 ∨ k = 1 ∨ k = 2 ∨ k = 3 ∨ k = 4 := by omega
              rcases hc with rfl | rfl | rfl | rfl | rfl
              · have kt : (0 : Int) ≤ (P.size : Int) := by omega
                have hy : ((UInt8.ofNat (33 + V / 52200625 % 85)).toNat : Int) = 33 + (V : Int) / 52200625 % 85 := by rw [UInt8.toNat_ofNat']; omega
                obtain ⟨g, cap, w5, hrun, hown5, hb5, _⟩ := app_one (UInt8.ofNat (33 + V / 52200625 % 85)) wr g1 hNs (by omega)
                rw [hy] at hrun
                simp only [Nat.add_zero] at hrun
                have hd : (digs V).take 1 = (digs V).take 0 ++ [UInt8.ofNat (33 + V / 52200625 % 85)] := rfl
                have HN := Lib.hid (show FrDig N w V q o 1 (some ⟨g, 0, none⟩) cap w5 from ⟨by rw [hd, ← List.append_assoc]; exact hown5, g2.trans hb5⟩)
                clear g1 g2 hd hown5 hb5 hy
                rw [show byL 0 = 52200625 from rfl]
                go_wp2_with fail
                go_roundw
                case rel => exact ⟨1, some ⟨g, 0, none⟩, cap, by omega, by go_num, rfl, rfl, HN⟩
                case measure => simp [intOf] <;> omega
              · have kt : (1 : Int) ≤ (P.size : Int) := by omega
                have hy : ((UInt8.ofNat (33 + V / 614125 % 85)).toNat : Int) = 33 + (V : Int) / 614125 % 85 := by rw [UInt8.toNat_ofNat']; omega
                obtain ⟨g, cap, w5, hrun, hown5, hb5, _⟩ := app_one (UInt8.ofNat (33 + V / 614125 % 85)) wr g1 hNs (by omega)
                rw [hy] at hrun
                have hd : (digs V).take 2 = (digs V).take 1 ++ [UInt8.ofNat (33 + V / 614125 % 85)] := rfl
                have HN := Lib.hid (show FrDig N w V q o 2 (some ⟨g, 0, none⟩) cap w5 from ⟨by rw [hd, ← List.append_assoc]; exact hown5, g2.trans hb5⟩)
                clear g1 g2 hd hown5 hb5 hy
                rw [show byL 1 = 614125 from rfl]
                go_wp2_with fail
                go_roundw
                case rel => exact ⟨2, some ⟨g, 0, none⟩, cap, by omega, by go_num, rfl, rfl, HN⟩
                case measure => simp [intOf] <;> omega
              · have kt : (2 : Int) ≤ (P.size : Int) := by omega
                have hy : ((UInt8.ofNat (33 + V / 7225 % 85)).toNat : Int) = 33 + (V : Int) / 7225 % 85 := by rw [UInt8.toNat_ofNat']; omega
                obtain ⟨g, cap, w5, hrun, hown5, hb5, _⟩ := app_one (UInt8.ofNat (33 + V / 7225 % 85)) wr g1 hNs (by omega)
                rw [hy] at hrun
                have hd : (digs V).take 3 = (digs V).take 2 ++ [UInt8.ofNat (33 + V / 7225 % 85)] := rfl
                have HN := Lib.hid (show FrDig N w V q o 3 (some ⟨g, 0, none⟩) cap w5 from ⟨by rw [hd, ← List.append_assoc]; exact hown5, g2.trans hb5⟩)
                clear g1 g2 hd hown5 hb5 hy
                rw [show byL 2 = 7225 from rfl]
                go_wp2_with fail
                go_roundw
                case rel => exact ⟨3, some ⟨g, 0, none⟩, cap, by omega, by go_num, rfl, rfl, HN⟩
                case measure => simp [intOf] <;> omega
              · have kt : (3 : Int) ≤ (P.size : Int) := by omega
                have hy : ((UInt8.ofNat (33 + V / 85 % 85)).toNat : Int) = 33 + (V : Int) / 85 % 85 := by rw [UInt8.toNat_ofNat']; omega
                obtain ⟨g, cap, w5, hrun, hown5, hb5, _⟩ := app_one (UInt8.ofNat (33 + V / 85 % 85)) wr g1 hNs (by omega)
                rw [hy] at hrun
                have hd : (digs V).take 4 = (digs V).take 3 ++ [UInt8.ofNat (33 + V / 85 % 85)] := rfl
                have HN := Lib.hid (show FrDig N w V q o 4 (some ⟨g, 0, none⟩) cap w5 from ⟨by rw [hd, ← List.append_assoc]; exact hown5, g2.trans hb5⟩)
                clear g1 g2 hd hown5 hb5 hy
                rw [show byL 3 = 85 from rfl]
                go_wp2_with fail
                go_roundw
                case rel => exact ⟨4, some ⟨g, 0, none⟩, cap, by omega, by go_num, rfl, rfl, HN⟩
                case measure => simp [intOf] <;> omega
              · have kt : (4 : Int) ≤ (P.size : Int) := by omega
                have hy : ((UInt8.ofNat (33 + V % 85)).toNat : Int) = 33 + (V : Int) % 85 := by rw [UInt8.toNat_ofNat']; omega
                obtain ⟨g, cap, w5, hrun, hown5, hb5, _⟩ := app_one (UInt8.ofNat (33 + V % 85)) wr g1 hNs (by omega)
                rw [hy] at hrun
                have hd : (digs V).take 5 = (digs V).take 4 ++ [UInt8.ofNat (33 + V % 85)] := rfl
                have HN := Lib.hid (show FrDig N w V q o 5 (some ⟨g, 0, none⟩) cap w5 from ⟨by rw [hd, ← List.append_assoc]; exact hown5, g2.trans hb5⟩)
                clear g1 g2 hd hown5 hb5 hy
                rw [show byL 4 = 1 from rfl]
                go_wp2_with fail
                go_roundw
                case rel => exact ⟨5, some ⟨g, 0, none⟩, cap, by omega, by go_num, rfl, rfl, HN⟩
                case measure => simp [intOf] <;> omega
            · obtain rfl : k = P.size + 1 := by omega
              have kt : ¬ ((P.size : Int) + 1) ≤ (P.size : Int) := by omega
              have hN3 := Lib.hid (show FrTo N w L s.data.toList (i + 4) (o ++ (digs V).take (P.size + 1)) (.slice A' (q + (P.size + 1)) C') wr from by
                have hlen : (o ++ (digs V).take (P.size + 1)).length = q + (P.size + 1) := by rw [List.length_append, HQ.out, List.length_take]; show q + min (P.size + 1) 5 = _; omega
                refine ⟨by rw [hlen]; exact g1, g2, ?_, by rw [hlen]; omega⟩
                rw [HSt.out, HGn.out (P.size + 1) HDg.out rfl, List.append_assoc])
              clear g1 g2
              go_wp2_with fail
              go_roundw
              case rel => exact ⟨i + 4, _, by omega, by go_num, hN3⟩
              case measure => simp [intOf]; omega
    · have hd : s.data.toList.drop i = [] := List.drop_eq_nil_of_le (by rw [HLn.out]; omega)
      have hconv := run_string_of_own (l := o) h1 HQ.out
      have HL2 := Lib.hid (show o = L by rw [HL.out, hd, fiveE_nil, List.append_nil])
      obtain ⟨X, hX⟩ : ∃ X : ByteArray, (⟨o.toArray⟩ : ByteArray) = X := ⟨_, rfl⟩
      have hsz : X.size ≤ 5000000 := by
        have e : X.size = o.length := by rw [← hX]; simp [ByteArray.size]
        have := HLL.out
        rw [← HL2.out] at this
        omega
      rw [hX] at hconv
      have HX := Lib.hid (show (⟨L.toArray⟩ : ByteArray) = X by rw [← HL2.out]; exact hX)
      clear h1 h2 h3 hq hX hd
      go_wp2_with fail
      go_ret
      exact ⟨by rw [HX.out]; rfl, HB.out⟩
end Go.Proofs.Ythioafndepkhoaa
