/-
  hint's decoded: the walk.
-/
import Derived.Test.YtkcnhdponcbjaaaHntJ
import Derived.Deep.RegionHeld3
import Derived.RegionDies
namespace Go.Proofs.Ytkcnhdponcbjaaa
open Go.RowKit Bt Hnt

def DPost (N : Nat) (w0 : World) (D : Option (List H3)) (e : Ending) (w' : World) : Prop :=
  Below N w0 w' ∧ ((D = none ∧ ∃ x, x ≠ 0 ∧ e = gUp x) ∨ ∃ (rows : List H3) (b cap : Nat), D = some rows ∧ e = .returned (.slice (some ⟨b, 0, none⟩) rows.length cap) ∧ HAt w' (some ⟨b, 0, none⟩) rows ∧ N ≤ b)
def bd (A : H3) : Prop := ∀ c, 0 ≤ clm c A ∧ clm c A < 1114112
theorem bd_zero : bd (0, 0, 0) := fun c => by unfold clm; split <;> decide
theorem bd_set {A : H3} (h : bd A) (c : Nat) {v : Int} (h0 : 0 ≤ v) (h1 : v < 1114112) : bd (setC c v A) := fun j => by
  have b0 := h 0
  have b1 := h 1
  have b2 := h 2
  have e0 : clm 0 A = A.1 := rfl
  have e1 : clm 1 A = A.2.1 := rfl
  have e2 : clm 2 A = A.2.2 := rfl
  rw [e0] at b0
  rw [e1] at b1
  rw [e2] at b2
  unfold setC clm
  split <;> split <;> dsimp <;> omega
theorem rL_no {s : ByteArray} {p m c : Nat} {A : H3} {r : RS} (h : longR s r = none) : rL s p (m + 1) c A r = none := by unfold rL; rw [h]
theorem rL_yes {s : ByteArray} {p m c : Nat} {A : H3} {r r' : RS} {v : Int} (h : longR s r = some (v, r')) : rL s p (m + 1) c A r = rL s p m (c + 1) (setC c v A) r' := by
  conv => lhs; unfold rL
  rw [h]
theorem rW_no {s : ByteArray} {p m c : Nat} {A W : H3} {r : RS} (h : tkE s r 16 ≠ 0) : rW s p (m + 1) c A W r = none := by unfold rW; rw [if_neg h]
theorem rW_yes {s : ByteArray} {p m c : Nat} {A W : H3} {r : RS} (h : tkE s r 16 = 0) : rW s p (m + 1) c A W r = rW s p m (c + 1) A (setC c (tkV s r 16) W) (tkS s r 16) := by
  conv => lhs; unfold rW
  rw [if_pos h]
theorem info_row : (Try.prog.info? 61).map (fun i => (i.zero, i.size, i.bytes)) = some (some (.agg #[.int .i64 0, .int .i64 0, .int .i64 0]), 3, 24) := by kernel_rfl
theorem info_hint : (Try.prog.info? 35).map (fun i => (i.zero, i.size, i.bytes)) = some (some (.agg #[.int .i64 0, .int .i64 0, .int .i64 0]), 3, 24) := by kernel_rfl
theorem make_rows (p : Nat) (hp : p ≤ 2048) (w : World) : (Instr.makeSlice 79 (.int .i64 (p : Int)) (.int .i64 (p : Int))).run Try.prog w = .ok (.slice (some ⟨w.heap.size, 0, none⟩) p p) (w.alloc (.cells (madeCells (Value.agg #[.int .i64 0, .int .i64 0, .int .i64 0]).cells (p * 3)) 61)) := by
  obtain ⟨i, hi, he⟩ := Option.map_eq_some_iff.1 info_row
  injection he with h1 h2
  injection h2 with h2 h3
  have := run_makeSlice w 79 61 i _ Try.underlying79 hi h1 .i64 .i64 (p : Int) (p : Int) (by omega) (by omega) (by rw [h2]; omega) (by rw [h3]; omega) (by omega)
  rw [h2, Int.toNat_natCast] at this
  exact this
theorem make_hints (p : Nat) (hp : p ≤ 2048) (w : World) : (Instr.makeSlice 22 (.int .i64 (p : Int)) (.int .i64 (p : Int))).run Try.prog w = .ok (.slice (some ⟨w.heap.size, 0, none⟩) p p) (w.alloc (.cells (madeCells (Value.agg #[.int .i64 0, .int .i64 0, .int .i64 0]).cells (p * 3)) 35)) := by
  obtain ⟨i, hi, he⟩ := Option.map_eq_some_iff.1 info_hint
  injection he with h1 h2
  injection h2 with h2 h3
  have := run_makeSlice w 22 35 i _ Try.underlying22 hi h1 .i64 .i64 (p : Int) (p : Int) (by omega) (by omega) (by rw [h2]; omega) (by rw [h3]; omega) (by omega)
  rw [h2, Int.toNat_natCast] at this
  exact this

/-- The rest of a column, and what follows it. -/
def rK (s : ByteArray) (p m c : Nat) (A W : H3) (q k : Nat) (rows : List H3) (r : RS) : Option (List H3) := match colRun s c (clm c A) (clm c W) q k rows r with
  | none => none
  | some (rows', r') => rC s p m (c + 1) A W rows' (alg r'.1, 0)
theorem rK_no {s : ByteArray} {p m c q k : Nat} {A W : H3} {rows : List H3} {r : RS} {x : Int} (hx : clm c W = x) (h : tkE s r x ≠ 0) (hq : 0 < q) : rK s p m c A W q k rows r = none := by
  subst hx
  obtain ⟨q, rfl⟩ : ∃ q', q = q' + 1 := ⟨q - 1, by omega⟩
  unfold rK colRun
  rw [if_neg h]
theorem rK_yes {s : ByteArray} {p m c q q' k : Nat} {A W : H3} {rows : List H3} {r : RS} {x y v : Int} (hx : clm c W = x) (hy : clm c A = y) (hv : tkV s r x = v) (h : tkE s r x = 0) (hq : q = q' + 1) (hk : k < rows.length) :
    rK s p m c A W q k rows r = rK s p m c A W q' (k + 1) (rows.set k (setC c (y + v) rows[k])) (tkS s r x) := by
  subst hx hy hv hq
  conv => lhs; unfold rK colRun
  rw [if_pos h, show rows.getD k (0, 0, 0) = rows[k] by rw [List.getD_eq_getElem?_getD, List.getElem?_eq_getElem hk]; rfl]
  rfl
theorem rK_end {s : ByteArray} {p m c k : Nat} {A W : H3} {rows : List H3} {r : RS} : rK s p m c A W 0 k rows r = rC s p m (c + 1) A W rows (alg r.1, 0) := rfl
theorem take_set {rows : List H3} {p k : Nat} (hl : rows.length = p) (hk : k < rows.length) (x : H3) (hx : rows[k] = x) : (rows.take k ++ List.replicate (p - k) ((0, 0, 0) : H3)).set k x = rows.take (k + 1) ++ List.replicate (p - (k + 1)) (0, 0, 0) := by
  subst hx
  rw [List.set_append_right _ _ (by rw [List.length_take]; omega), List.length_take, show k - min k rows.length = 0 by omega, show p - k = (p - (k + 1)) + 1 by omega, List.replicate_succ, List.set_cons_zero, List.take_succ_eq_append_getElem hk, List.append_assoc]
  rfl
theorem set3 (l : List H3) (k : Nat) (hk : k < l.length) (x y z : Int) (h1 : k < (l.set k (setC 0 x l[k])).length) (h2 : k < ((l.set k (setC 0 x l[k])).set k (setC 1 y ((l.set k (setC 0 x l[k]))[k]))).length) :
    ((l.set k (setC 0 x l[k])).set k (setC 1 y ((l.set k (setC 0 x l[k]))[k]))).set k (setC 2 z (((l.set k (setC 0 x l[k])).set k (setC 1 y ((l.set k (setC 0 x l[k]))[k])))[k])) = l.set k (x, y, z) := by
  simp only [List.getElem_set_self, List.set_set]
  rfl

set_option maxRecDepth 100000 in
set_option maxHeartbeats 16000000 in
theorem decoded_any (s : ByteArray) (w : World) (hs : s.size ≤ 1000000000) :
    Calls Try.prog 31 #[.string s] w (DPost w.heap.size w (decH s)) := by
  have hmf : ∀ (fn : Fn) (first cap : Array Value) (w : World), (Instr.makeFunc fn first cap).run Try.prog w = .ok (.func fn first cap) w := fun _ _ _ _ => rfl
  obtain ⟨N, hN⟩ : ∃ N, w.heap.size = N := ⟨_, rfl⟩
  have HNs := Lib.hid hN
  obtain ⟨D, hD⟩ : ∃ D, decH s = D := ⟨_, rfl⟩
  have HD0 := Lib.hid hD.symm
  have HSz := Lib.hid hs
  have PNew := Lib.hid (rfrom_c s N w hN)
  rw [hN, hD]
  clear hD hs
  go_enter Try.func31, Try.ntmps31
  go_wp2_with fail
  refine PNew.out.mono ?_
  rintro e w1 ⟨rfl, hg, hr, hs1⟩
  have HG1 := Lib.hid hg
  have HR1 := Lib.hid hr
  clear hg hr hN PNew
  obtain ⟨V, hV⟩ : ∃ V, (w1.alloc (.cells #[.pointer (some ⟨N, 0, none⟩)] 73)).alloc (.cells #[takeV (N + 1)] 30) = V := ⟨_, rfl⟩
  have HVs := Lib.hid (show V.heap.size = N + 3 by rw [← hV, World.size_alloc, World.size_alloc, hs1])
  have HVB := Lib.hid (show Below (N + 1) w1 V by rw [← hV]; exact ((Below.refl _ w1).alloc (by omega) _).alloc (by simp; omega) _)
  have HV1 := Lib.hid (show Blk V (N + 1) 73 #[.pointer (some ⟨N, 0, none⟩)] by rw [← hV, ← hs1]; exact (Blk.new w1 _ _).alloc _)
  have HV2 := Lib.hid (show Blk V (N + 2) 30 #[takeV (N + 1)] by
    rw [← hV]
    have := Blk.new (w1.alloc (.cells #[.pointer (some ⟨N, 0, none⟩)] 73)) 30 #[takeV (N + 1)]
    rw [World.size_alloc, hs1] at this
    exact this)
  have HVN := Lib.hid (show Below N w V from (show Below N w w1 from ⟨HG1.out.os, HG1.out.tape, HG1.out.output, HG1.out.size, fun k hk => HG1.out.block k (by rw [HNs.out]; exact hk) (by simp)⟩).trans (HVB.out.mono (by omega)))
  have HVR := Lib.hid (show Rd 92 V N s 0 0 from Blk.below HR1.out HVB.out (by omega))
  unfold takeV at hV
  go_upto_region 3 with fail
  rw [show N + 1 + 1 = N + 2 from rfl]
  clear hV hs1
  have hfirst : longR s (0, 0) = none ∨ ∃ v r, longR s (0, 0) = some (v, r) := by
    cases longR s (0, 0) with
    | none => exact Or.inl rfl
    | some x => exact Or.inr ⟨x.1, x.2, rfl⟩
  rcases hfirst with hf | ⟨pz, r0, hf⟩
  · have HDn := Lib.hid (show D = none by rw [HD0.out]; unfold decH; rw [hf])
    have PL := Lib.hid (long_no N (N + 1) (N + 2) s (0, 0) V HV1.out HV2.out (by omega) (by omega) HVR.out (by simp) HSz.out hf)
    clear hf
    go_wp2_with fail
    refine PL.out.mono ?_
    rintro e w3 ⟨⟨x, hx, rfl⟩, r1, hn⟩
    exact ⟨rfl, HVN.out.grown hn.1 (by rw [HVs.out]; omega) (fun k e => by injection e with e; omega), Or.inl ⟨HDn.out, x, hx, rfl⟩⟩
  · have hin := longR_in hf (by simp)
    obtain ⟨p, rfl⟩ : ∃ p : Nat, pz = (p : Int) := ⟨pz.toNat, by omega⟩
    have PL := Lib.hid (long_ok N (N + 1) (N + 2) s (0, 0) r0 (p : Int) V HV1.out HV2.out (by omega) (by omega) HVR.out (by simp) HSz.out hf)
    have HDp := Lib.hid (show D = if 2048 < (p : Int) then none else rL s p 3 0 (0, 0, 0) r0 by
      rw [HD0.out]
      unfold decH
      rw [hf]
      show (if 2048 < (p : Int) then none else rL s ((p : Int)).toNat 3 0 (0, 0, 0) r0) = _
      rw [Int.toNat_natCast])
    have HRin := Lib.hid hin.2.2
    have hpb : (p : Int) < 1114112 := hin.2.1
    clear hf hin
    go_wp2_with fail
    refine PL.out.mono ?_
    rintro e w3 ⟨rfl, hn⟩
    have HN3 := Lib.hid hn
    clear hn PL
    by_cases h2 : (2048 : Int) < (p : Int)
    · have HDn := Lib.hid (show D = none by rw [HDp.out, if_pos h2])
      go_wp2_with fail
      refine (up_any 32 _).mono ?_
      rintro e w4 ⟨rfl, rfl⟩
      exact ⟨rfl, HVN.out.grown HN3.out.1 (by rw [HVs.out]; omega) (fun k e => by injection e with e; omega), Or.inl ⟨HDn.out, 32, by decide, rfl⟩⟩
    · have HDL := Lib.hid (show D = rL s p (3 - 0) 0 (0, 0, 0) r0 by rw [HDp.out, if_neg h2])
      obtain ⟨m, hm⟩ : ∃ m, w3.heap.size = m := ⟨_, rfl⟩
      obtain ⟨U, hU⟩ : ∃ U, (w3.alloc (.cells #[.int .i64 0, .int .i64 0, .int .i64 0] 61)).alloc (.cells #[.int .i64 0, .int .i64 0, .int .i64 0] 61) = U := ⟨_, rfl⟩
      have HDec := Lib.hid (show Dec N w s m r0 (0, 0, 0) (0, 0, 0) U by
        have hsz := HN3.out.1.size
        rw [HVs.out, hm] at hsz
        have hb3 : Below w3.heap.size w3 U := by rw [← hU]; exact ((Below.refl _ w3).alloc (Nat.le_refl _) _).alloc (by simp) _
        refine ⟨(HVN.out.grown HN3.out.1 (by rw [HVs.out]; omega) (fun k e => by injection e with e; omega)).trans (hb3.mono (by omega)), Blk.below HN3.out.2 hb3 (by omega), HRin.out, (HV1.out.grown HN3.out.1 (ne_some (by omega))).below hb3 (by omega), (HV2.out.grown HN3.out.1 (ne_some (by omega))).below hb3 (by omega), ?_, ?_, by omega, by rw [← hU, World.size_alloc, World.size_alloc, hm]; omega⟩
        · rw [← hU, ← hm]; exact (Blk.new w3 _ _).alloc _
        · rw [← hU]
          have := Blk.new (w3.alloc (.cells #[.int .i64 0, .int .i64 0, .int .i64 0] 61)) 61 #[.int .i64 0, .int .i64 0, .int .i64 0]
          rw [World.size_alloc, hm] at this
          exact this)
      have hpn : (p : Int) ≤ 2048 := by omega
      clear h2 HDp hpb
      go_upto_region 8 with fail
      try rw [hU]
      try rw [hm]
      clear hU hm
      go_wp2_with fail
      go_loopw [26] (fun i wr => ∃ (c : Nat) (A : H3) (r : RS), c ≤ 3 ∧ i = .int .i64 (c : Int) ∧ Hid (Dec N w s m r A (0, 0, 0) wr) ∧ Hid (D = rL s p (3 - c) c A r) ∧ Hid (bd A)) (fun i _ => 3 - (intOf i).toNat)
      case atStart => exact ⟨0, (0, 0, 0), r0, by omega, rfl, HDec, HDL, Lib.hid bd_zero⟩
      case round =>
        clear HDec HDL
        obtain ⟨c, A, r, hc, rfl, S, HD, HBd⟩ := hrel
        have hcs : c = 0 ∨ c = 1 ∨ c = 2 ∨ c = 3 := by omega
        rcases hcs with hj1 | hj1 | hj1 | hj1
        · obtain rfl : c = 0 := by omega
          have hcase : longR s r = none ∨ ∃ v r', longR s r = some (v, r') := by
            cases longR s r with
            | none => exact Or.inl rfl
            | some x => exact Or.inr ⟨x.1, x.2, rfl⟩
          rcases hcase with hf | ⟨v, r', hf⟩
          · have HDn := Lib.hid (show D = none from HD.out.trans (rL_no hf))
            have PL := Lib.hid (dec_long_no S.out HSz.out hf)
            clear hf
            go_wp2_with fail
            refine PL.out.mono ?_
            rintro e w4 ⟨⟨x, hx, rfl⟩, hb⟩
            exact ⟨rfl, hb, Or.inl ⟨HDn.out, x, hx, rfl⟩⟩
          · have HD2 := Lib.hid (show D = rL s p (3 - (0 + 1)) (0 + 1) (setC 0 v A) r' from HD.out.trans (rL_yes hf))
            have PL := Lib.hid (dec_long S.out HSz.out hf)
            have hin := longR_in hf S.out.2.2.1
            have HB2 := Lib.hid (bd_set HBd.out 0 hin.1 hin.2.1)
            clear hf hin
            go_wp2_with fail
            refine PL.out.mono ?_
            rintro e w4 ⟨rfl, hd, _⟩
            have S4 := Lib.hid hd
            clear hd PL
            obtain ⟨q0, q1, q2⟩ := S4.out.2.2.2.2.2.1.free
            obtain ⟨u0, u1, u2⟩ := S4.out.2.2.2.2.2.1.cells
            have S5 := Lib.hid (S4.out.set_a (c := 0) (by omega) v)
            go_wp2_with fail
            go_roundw
            case rel => exact ⟨0 + 1, setC 0 v A, r', by omega, by go_num, S5, HD2, HB2⟩
            case measure => simp [intOf]
        · obtain rfl : c = 1 := by omega
          have hcase : longR s r = none ∨ ∃ v r', longR s r = some (v, r') := by
            cases longR s r with
            | none => exact Or.inl rfl
            | some x => exact Or.inr ⟨x.1, x.2, rfl⟩
          rcases hcase with hf | ⟨v, r', hf⟩
          · have HDn := Lib.hid (show D = none from HD.out.trans (rL_no hf))
            have PL := Lib.hid (dec_long_no S.out HSz.out hf)
            clear hf
            go_wp2_with fail
            refine PL.out.mono ?_
            rintro e w4 ⟨⟨x, hx, rfl⟩, hb⟩
            exact ⟨rfl, hb, Or.inl ⟨HDn.out, x, hx, rfl⟩⟩
          · have HD2 := Lib.hid (show D = rL s p (3 - (1 + 1)) (1 + 1) (setC 1 v A) r' from HD.out.trans (rL_yes hf))
            have PL := Lib.hid (dec_long S.out HSz.out hf)
            have hin := longR_in hf S.out.2.2.1
            have HB2 := Lib.hid (bd_set HBd.out 1 hin.1 hin.2.1)
            clear hf hin
            go_wp2_with fail
            refine PL.out.mono ?_
            rintro e w4 ⟨rfl, hd, _⟩
            have S4 := Lib.hid hd
            clear hd PL
            obtain ⟨q0, q1, q2⟩ := S4.out.2.2.2.2.2.1.free
            obtain ⟨u0, u1, u2⟩ := S4.out.2.2.2.2.2.1.cells
            have S5 := Lib.hid (S4.out.set_a (c := 1) (by omega) v)
            go_wp2_with fail
            go_roundw
            case rel => exact ⟨1 + 1, setC 1 v A, r', by omega, by go_num, S5, HD2, HB2⟩
            case measure => simp [intOf]
        · obtain rfl : c = 2 := by omega
          have hcase : longR s r = none ∨ ∃ v r', longR s r = some (v, r') := by
            cases longR s r with
            | none => exact Or.inl rfl
            | some x => exact Or.inr ⟨x.1, x.2, rfl⟩
          rcases hcase with hf | ⟨v, r', hf⟩
          · have HDn := Lib.hid (show D = none from HD.out.trans (rL_no hf))
            have PL := Lib.hid (dec_long_no S.out HSz.out hf)
            clear hf
            go_wp2_with fail
            refine PL.out.mono ?_
            rintro e w4 ⟨⟨x, hx, rfl⟩, hb⟩
            exact ⟨rfl, hb, Or.inl ⟨HDn.out, x, hx, rfl⟩⟩
          · have HD2 := Lib.hid (show D = rL s p (3 - (2 + 1)) (2 + 1) (setC 2 v A) r' from HD.out.trans (rL_yes hf))
            have PL := Lib.hid (dec_long S.out HSz.out hf)
            have hin := longR_in hf S.out.2.2.1
            have HB2 := Lib.hid (bd_set HBd.out 2 hin.1 hin.2.1)
            clear hf hin
            go_wp2_with fail
            refine PL.out.mono ?_
            rintro e w4 ⟨rfl, hd, _⟩
            have S4 := Lib.hid hd
            clear hd PL
            obtain ⟨q0, q1, q2⟩ := S4.out.2.2.2.2.2.1.free
            obtain ⟨u0, u1, u2⟩ := S4.out.2.2.2.2.2.1.cells
            have S5 := Lib.hid (S4.out.set_a (c := 2) (by omega) v)
            go_wp2_with fail
            go_roundw
            case rel => exact ⟨2 + 1, setC 2 v A, r', by omega, by go_num, S5, HD2, HB2⟩
            case measure => simp [intOf]
        · obtain rfl : c = 3 := by omega
          have HDW := Lib.hid (show D = rW s p (3 - 0) 0 A (0, 0, 0) r from HD.out)
          rw [show ((3 : Nat) : Int) = 3 from rfl]
          clear HD
          go_wp2_with fail
          go_loopw [34] (fun i wr => ∃ (c : Nat) (W : H3) (r : RS), c ≤ 3 ∧ i = .int .i64 (c : Int) ∧ Hid (Dec N w s m r A W wr) ∧ Hid (D = rW s p (3 - c) c A W r)) (fun i _ => 3 - (intOf i).toNat)
          case atStart => exact ⟨0, (0, 0, 0), r, by omega, rfl, S, HDW⟩
          case round =>
            clear S HDW
            obtain ⟨c, W, r, hc, rfl, S, HD⟩ := hrel
            have hcs : c = 0 ∨ c = 1 ∨ c = 2 ∨ c = 3 := by omega
            rcases hcs with hj1 | hj1 | hj1 | hj1
            · obtain rfl : c = 0 := by omega
              have b4 := S.out.2.2.2.2.1.cell 0
              simp only [List.getElem?_toArray, List.getElem?_cons_zero] at b4
              unfold takeV at b4
              by_cases hf : tkE s r 16 = 0
              · have HD2 := Lib.hid (show D = rW s p (3 - (0 + 1)) (0 + 1) A (setC 0 (tkV s r 16) W) (tkS s r 16) from HD.out.trans (rW_yes hf))
                have PL := Lib.hid (dec_take S.out HSz.out hf)
                obtain ⟨v, hv⟩ : ∃ v, tkV s r 16 = v := ⟨_, rfl⟩
                rw [hv] at PL HD2
                clear hf hv
                go_wp2_with fail
                refine PL.out.mono ?_
                rintro e w4 ⟨rfl, hd, _⟩
                have S4 := Lib.hid hd
                clear hd PL b4
                obtain ⟨q0, q1, q2⟩ := S4.out.2.2.2.2.2.2.1.free
                obtain ⟨u0, u1, u2⟩ := S4.out.2.2.2.2.2.2.1.cells
                have S5 := Lib.hid (S4.out.set_w (c := 0) (by omega) v)
                go_wp2_with fail
                go_roundw
                case rel => exact ⟨0 + 1, setC 0 v W, tkS s r 16, by omega, by go_num, S5, HD2⟩
                case measure => simp [intOf]
              · have HDn := Lib.hid (show D = none from HD.out.trans (rW_no hf))
                have PL := Lib.hid (dec_take_no S.out HSz.out hf)
                clear hf
                go_wp2_with fail
                refine PL.out.mono ?_
                rintro e w4 ⟨⟨x, hx, rfl⟩, hb⟩
                exact ⟨rfl, hb, Or.inl ⟨HDn.out, x, hx, rfl⟩⟩
            · obtain rfl : c = 1 := by omega
              have b4 := S.out.2.2.2.2.1.cell 0
              simp only [List.getElem?_toArray, List.getElem?_cons_zero] at b4
              unfold takeV at b4
              by_cases hf : tkE s r 16 = 0
              · have HD2 := Lib.hid (show D = rW s p (3 - (1 + 1)) (1 + 1) A (setC 1 (tkV s r 16) W) (tkS s r 16) from HD.out.trans (rW_yes hf))
                have PL := Lib.hid (dec_take S.out HSz.out hf)
                obtain ⟨v, hv⟩ : ∃ v, tkV s r 16 = v := ⟨_, rfl⟩
                rw [hv] at PL HD2
                clear hf hv
                go_wp2_with fail
                refine PL.out.mono ?_
                rintro e w4 ⟨rfl, hd, _⟩
                have S4 := Lib.hid hd
                clear hd PL b4
                obtain ⟨q0, q1, q2⟩ := S4.out.2.2.2.2.2.2.1.free
                obtain ⟨u0, u1, u2⟩ := S4.out.2.2.2.2.2.2.1.cells
                have S5 := Lib.hid (S4.out.set_w (c := 1) (by omega) v)
                go_wp2_with fail
                go_roundw
                case rel => exact ⟨1 + 1, setC 1 v W, tkS s r 16, by omega, by go_num, S5, HD2⟩
                case measure => simp [intOf]
              · have HDn := Lib.hid (show D = none from HD.out.trans (rW_no hf))
                have PL := Lib.hid (dec_take_no S.out HSz.out hf)
                clear hf
                go_wp2_with fail
                refine PL.out.mono ?_
                rintro e w4 ⟨⟨x, hx, rfl⟩, hb⟩
                exact ⟨rfl, hb, Or.inl ⟨HDn.out, x, hx, rfl⟩⟩
            · obtain rfl : c = 2 := by omega
              have b4 := S.out.2.2.2.2.1.cell 0
              simp only [List.getElem?_toArray, List.getElem?_cons_zero] at b4
              unfold takeV at b4
              by_cases hf : tkE s r 16 = 0
              · have HD2 := Lib.hid (show D = rW s p (3 - (2 + 1)) (2 + 1) A (setC 2 (tkV s r 16) W) (tkS s r 16) from HD.out.trans (rW_yes hf))
                have PL := Lib.hid (dec_take S.out HSz.out hf)
                obtain ⟨v, hv⟩ : ∃ v, tkV s r 16 = v := ⟨_, rfl⟩
                rw [hv] at PL HD2
                clear hf hv
                go_wp2_with fail
                refine PL.out.mono ?_
                rintro e w4 ⟨rfl, hd, _⟩
                have S4 := Lib.hid hd
                clear hd PL b4
                obtain ⟨q0, q1, q2⟩ := S4.out.2.2.2.2.2.2.1.free
                obtain ⟨u0, u1, u2⟩ := S4.out.2.2.2.2.2.2.1.cells
                have S5 := Lib.hid (S4.out.set_w (c := 2) (by omega) v)
                go_wp2_with fail
                go_roundw
                case rel => exact ⟨2 + 1, setC 2 v W, tkS s r 16, by omega, by go_num, S5, HD2⟩
                case measure => simp [intOf]
              · have HDn := Lib.hid (show D = none from HD.out.trans (rW_no hf))
                have PL := Lib.hid (dec_take_no S.out HSz.out hf)
                clear hf
                go_wp2_with fail
                refine PL.out.mono ?_
                rintro e w4 ⟨⟨x, hx, rfl⟩, hb⟩
                exact ⟨rfl, hb, Or.inl ⟨HDn.out, x, hx, rfl⟩⟩
            · obtain rfl : c = 3 := by omega
              have HDC := Lib.hid (show D = rC s p (3 - 0) 0 A W (List.replicate p (0, 0, 0)) r from HD.out)
              rw [show ((3 : Nat) : Int) = 3 from rfl]
              clear HD
              have mk := make_rows p (by omega)
              obtain ⟨b, hb⟩ : ∃ b, wr.heap.size = b := ⟨_, rfl⟩
              obtain ⟨U2, hU2⟩ : ∃ U2, wr.alloc (.cells (madeCells #[.int .i64 0, .int .i64 0, .int .i64 0] (p * 3)) 61) = U2 := ⟨_, rfl⟩
              have HDe := Lib.hid (show Dec N w s m r A W U2 by rw [← hU2]; exact S.out.more ((Below.refl _ _).alloc (Nat.le_refl _) _))
              have HRo := Lib.hid (show RAt U2 b 61 (List.replicate p (0, 0, 0)) by rw [← hU2, ← hb]; exact RAt.new (Blk.new _ _ _))
              have Hmb := Lib.hid (show m + 1 < b by rw [← hb]; exact S.out.2.2.2.2.2.2.2.2)
              go_upto_region 19 with fail
              try rw [hU2]
              try rw [hb]
              clear hU2 hb S mk
              have HLr := Lib.hid (show (List.replicate p ((0, 0, 0) : H3)).length = p from List.length_replicate)
              go_wp2_with fail
              go_loopw [44] (fun i wr => ∃ (c : Nat) (rows : List H3) (r : RS), c ≤ 3 ∧ i = .int .i64 (c : Int) ∧ Hid (Dec N w s m r A W wr) ∧ Hid (RAt wr b 61 rows) ∧ Hid (rows.length = p) ∧ Hid (D = rC s p (3 - c) c A W rows r)) (fun i _ => 3 - (intOf i).toNat)
              case atStart => exact ⟨0, List.replicate p (0, 0, 0), r, by omega, rfl, HDe, HRo, HLr, HDC⟩
              case round =>
                clear HDe HRo HLr HDC
                obtain ⟨c, rows, r, hc, rfl, S, HR, HL, HD⟩ := hrel
                have hcs : c = 0 ∨ c = 1 ∨ c = 2 ∨ c = 3 := by omega
                rcases hcs with hj1 | hj1 | hj1 | hj1
                · obtain rfl : c = 0 := by omega
                  have HDK := Lib.hid (show D = rK s p (3 - (0 + 1)) 0 A W (p - 0) 0 rows r from HD.out)
                  clear HD
                  go_wp2_with fail
                  go_loopw [49] (fun i wr => ∃ (k : Nat) (rows : List H3) (r : RS), k ≤ p ∧ i = .int .i64 (k : Int) ∧ Hid (Dec N w s m r A W wr) ∧ Hid (RAt wr b 61 rows) ∧ Hid (rows.length = p) ∧ Hid (D = rK s p (3 - (0 + 1)) 0 A W (p - k) k rows r)) (fun i _ => p - (intOf i).toNat)
                  case atStart => exact ⟨0, rows, r, by omega, rfl, S, HR, HL, HDK⟩
                  case round =>
                    clear S HR HL HDK
                    obtain ⟨k, rows, r, hk, rfl, S, HR, HL, HD⟩ := hrel
                    by_cases hlt : k < p
                    · have hkl : k < rows.length := by rw [HL.out]; exact hlt
                      obtain ⟨xa, hxa⟩ : ∃ x, clm 0 A = x := ⟨_, rfl⟩
                      obtain ⟨xw, hxw⟩ : ∃ x, clm 0 W = x := ⟨_, rfl⟩
                      have hxb := HBd.out 0
                      rw [hxa] at hxb
                      have HCel := Lib.hid (fun (W' : World) (r' : RS) (d : Dec N w s m r' A W W') => (show W'.cell? ⟨N + 2, 0, none⟩ = some (takeV (N + 1)) ∧ W'.cell? ⟨m, 0, none⟩ = some (.int .i64 xa) ∧ W'.cell? ⟨m + 1, 0, none⟩ = some (.int .i64 xw) from
                        ⟨(d.2.2.2.2.1.cell 0).trans rfl, by rw [← hxa]; exact d.2.2.2.2.2.1.cells.1, by rw [← hxw]; exact d.2.2.2.2.2.2.1.cells.1⟩))
                      unfold takeV at HCel
                      obtain ⟨e1, e2, e3⟩ := HCel.out wr r S.out
                      have hik : (k : Int) < (p : Int) := by omega
                      by_cases hf : tkE s r xw = 0
                      · have hvb := tkV_in s r xw hf
                        obtain ⟨v, hv⟩ : ∃ v, tkV s r xw = v := ⟨_, rfl⟩
                        rw [hv] at hvb
                        have HD2 := Lib.hid (show D = rK s p (3 - (0 + 1)) 0 A W (p - (k + 1)) (k + 1) (rows.set k (setC 0 (xa + v) rows[k])) (tkS s r xw) from HD.out.trans (rK_yes hxw hxa hv hf (by omega) hkl))
                        have PL := Lib.hid (fun (W' : World) (d : Dec N w s m r A W W') => dec_take d HSz.out hf)
                        rw [hv] at PL
                        have hv1 := hvb.2.2
                        have hv0 := hvb.1
                        have HKL := Lib.hid hkl
                        have HLen := Lib.hid (show (rows.set k (setC 0 (xa + v) rows[k])).length = p by rw [List.length_set]; exact HL.out)
                        clear hf hv hvb hxa hxw
                        go_wp2_with fail
                        go_region_held3 (fun W' => W'.cell? ⟨N + 2, 0, none⟩ = some (.func (.func 50) #[] #[.pointer (some ⟨N + 1, 0, none⟩)]) ∧ W'.cell? ⟨m, 0, none⟩ = some (.int .i64 xa) ∧ W'.cell? ⟨m + 1, 0, none⟩ = some (.int .i64 xw)) (first | exact ⟨e1, e2, e3⟩ | exact HC4.out | exact HCel.out _ _ (S4.out.far Hmb.out _))
                          ((go_at_call 50; refine (PL.out _ (S.out.drewN 1)).mono ?_; rintro e w4 ⟨rfl, hd, hn⟩; have S4 := Lib.hid hd; have R4 := Lib.hid (show RAt w4 b 61 rows from RAt.grown (HR.out.drewN 1) hn.1 (ne_some (by have h1 := S.out.2.2.2.2.2.2.2.1; have h2 := Hmb.out; omega))); have HC4 := Lib.hid (HCel.out w4 _ S4.out); obtain ⟨q0, q1, q2⟩ := R4.out.cells HKL.out; have f := R4.out.free (k * 3); clear hd hn))
                        all_goals
                          rw [show IntKind.i64.wrap (xa + v) = xa + v from IntWalk.i64_in _ (by omega)]
                          have S5 := Lib.hid (S4.out.far (p := ⟨b, k * 3 + 0, none⟩) Hmb.out (.int .i64 (xa + v)))
                          have R5 := Lib.hid (R4.out.set (c := 0) (by omega) HKL.out (xa + v))
                          clear q0 q1 q2 f e1 e2 e3
                          go_wp2_with fail
                          go_roundw
                          case rel => exact ⟨k + 1, _, _, by omega, by go_num, S5, R5, HLen, HD2⟩
                          case measure => simp [intOf]; omega
                      · have HDn := Lib.hid (show D = none from HD.out.trans (rK_no hxw hf (by omega)))
                        have PL := Lib.hid (fun (W' : World) (d : Dec N w s m r A W W') => dec_take_no d HSz.out hf)
                        clear hf hxa hxw
                        go_wp2_with fail
                        go_region_dies
                        all_goals
                          refine (PL.out _ (S.out.drewN 1)).mono ?_
                          rintro e w4 ⟨⟨x, hx, rfl⟩, hb⟩
                          exact ⟨rfl, hb, Or.inl ⟨HDn.out, x, hx, rfl⟩⟩
                    · obtain rfl : k = p := by omega
                      have HD2 := Lib.hid (show D = rC s k (3 - (0 + 1)) (0 + 1) A W rows (alg r.1, 0) from by
                        have h := HD.out
                        rw [Nat.sub_self k] at h
                        exact h)
                      have PA := Lib.hid (dec_align S.out HSz.out)
                      have b3 := S.out.2.2.2.1.cell 0
                      simp only [List.getElem?_toArray, List.getElem?_cons_zero] at b3
                      go_wp2_with fail
                      refine PA.out.mono ?_
                      rintro e w4 ⟨rfl, hd, hn⟩
                      have S4 := Lib.hid hd
                      have R4 := Lib.hid (show RAt w4 b 61 rows from HR.out.grown hn.1 (ne_some (by have h1 := S.out.2.2.2.2.2.2.2.1; have h2 := Hmb.out; omega)))
                      clear hd hn b3
                      go_wp2_with fail
                      go_roundw
                      case rel => exact ⟨0 + 1, rows, _, by omega, by go_num, S4, R4, HL, HD2⟩
                      case measure => simp [intOf]
                · obtain rfl : c = 1 := by omega
                  have HDK := Lib.hid (show D = rK s p (3 - (1 + 1)) 1 A W (p - 0) 0 rows r from HD.out)
                  clear HD
                  go_wp2_with fail
                  go_loopw [49] (fun i wr => ∃ (k : Nat) (rows : List H3) (r : RS), k ≤ p ∧ i = .int .i64 (k : Int) ∧ Hid (Dec N w s m r A W wr) ∧ Hid (RAt wr b 61 rows) ∧ Hid (rows.length = p) ∧ Hid (D = rK s p (3 - (1 + 1)) 1 A W (p - k) k rows r)) (fun i _ => p - (intOf i).toNat)
                  case atStart => exact ⟨0, rows, r, by omega, rfl, S, HR, HL, HDK⟩
                  case round =>
                    clear S HR HL HDK
                    obtain ⟨k, rows, r, hk, rfl, S, HR, HL, HD⟩ := hrel
                    by_cases hlt : k < p
                    · have hkl : k < rows.length := by rw [HL.out]; exact hlt
                      obtain ⟨xa, hxa⟩ : ∃ x, clm 1 A = x := ⟨_, rfl⟩
                      obtain ⟨xw, hxw⟩ : ∃ x, clm 1 W = x := ⟨_, rfl⟩
                      have hxb := HBd.out 1
                      rw [hxa] at hxb
                      have HCel := Lib.hid (fun (W' : World) (r' : RS) (d : Dec N w s m r' A W W') => (show W'.cell? ⟨N + 2, 0, none⟩ = some (takeV (N + 1)) ∧ W'.cell? ⟨m, 1, none⟩ = some (.int .i64 xa) ∧ W'.cell? ⟨m + 1, 1, none⟩ = some (.int .i64 xw) from
                        ⟨(d.2.2.2.2.1.cell 0).trans rfl, by rw [← hxa]; exact d.2.2.2.2.2.1.cells.2.1, by rw [← hxw]; exact d.2.2.2.2.2.2.1.cells.2.1⟩))
                      unfold takeV at HCel
                      obtain ⟨e1, e2, e3⟩ := HCel.out wr r S.out
                      have hik : (k : Int) < (p : Int) := by omega
                      by_cases hf : tkE s r xw = 0
                      · have hvb := tkV_in s r xw hf
                        obtain ⟨v, hv⟩ : ∃ v, tkV s r xw = v := ⟨_, rfl⟩
                        rw [hv] at hvb
                        have HD2 := Lib.hid (show D = rK s p (3 - (1 + 1)) 1 A W (p - (k + 1)) (k + 1) (rows.set k (setC 1 (xa + v) rows[k])) (tkS s r xw) from HD.out.trans (rK_yes hxw hxa hv hf (by omega) hkl))
                        have PL := Lib.hid (fun (W' : World) (d : Dec N w s m r A W W') => dec_take d HSz.out hf)
                        rw [hv] at PL
                        have hv1 := hvb.2.2
                        have hv0 := hvb.1
                        have HKL := Lib.hid hkl
                        have HLen := Lib.hid (show (rows.set k (setC 1 (xa + v) rows[k])).length = p by rw [List.length_set]; exact HL.out)
                        clear hf hv hvb hxa hxw
                        go_wp2_with fail
                        go_region_held3 (fun W' => W'.cell? ⟨N + 2, 0, none⟩ = some (.func (.func 50) #[] #[.pointer (some ⟨N + 1, 0, none⟩)]) ∧ W'.cell? ⟨m, 1, none⟩ = some (.int .i64 xa) ∧ W'.cell? ⟨m + 1, 1, none⟩ = some (.int .i64 xw)) (first | exact ⟨e1, e2, e3⟩ | exact HC4.out | exact HCel.out _ _ (S4.out.far Hmb.out _))
                          ((go_at_call 50; refine (PL.out _ (S.out.drewN 1)).mono ?_; rintro e w4 ⟨rfl, hd, hn⟩; have S4 := Lib.hid hd; have R4 := Lib.hid (show RAt w4 b 61 rows from RAt.grown (HR.out.drewN 1) hn.1 (ne_some (by have h1 := S.out.2.2.2.2.2.2.2.1; have h2 := Hmb.out; omega))); have HC4 := Lib.hid (HCel.out w4 _ S4.out); obtain ⟨q0, q1, q2⟩ := R4.out.cells HKL.out; have f := R4.out.free (k * 3 + 1); clear hd hn))
                        all_goals
                          rw [show IntKind.i64.wrap (xa + v) = xa + v from IntWalk.i64_in _ (by omega)]
                          have S5 := Lib.hid (S4.out.far (p := ⟨b, k * 3 + 1, none⟩) Hmb.out (.int .i64 (xa + v)))
                          have R5 := Lib.hid (R4.out.set (c := 1) (by omega) HKL.out (xa + v))
                          clear q0 q1 q2 f e1 e2 e3
                          go_wp2_with fail
                          go_roundw
                          case rel => exact ⟨k + 1, _, _, by omega, by go_num, S5, R5, HLen, HD2⟩
                          case measure => simp [intOf]; omega
                      · have HDn := Lib.hid (show D = none from HD.out.trans (rK_no hxw hf (by omega)))
                        have PL := Lib.hid (fun (W' : World) (d : Dec N w s m r A W W') => dec_take_no d HSz.out hf)
                        clear hf hxa hxw
                        go_wp2_with fail
                        go_region_dies
                        all_goals
                          refine (PL.out _ (S.out.drewN 1)).mono ?_
                          rintro e w4 ⟨⟨x, hx, rfl⟩, hb⟩
                          exact ⟨rfl, hb, Or.inl ⟨HDn.out, x, hx, rfl⟩⟩
                    · obtain rfl : k = p := by omega
                      have HD2 := Lib.hid (show D = rC s k (3 - (1 + 1)) (1 + 1) A W rows (alg r.1, 0) from by
                        have h := HD.out
                        rw [Nat.sub_self k] at h
                        exact h)
                      have PA := Lib.hid (dec_align S.out HSz.out)
                      have b3 := S.out.2.2.2.1.cell 0
                      simp only [List.getElem?_toArray, List.getElem?_cons_zero] at b3
                      go_wp2_with fail
                      refine PA.out.mono ?_
                      rintro e w4 ⟨rfl, hd, hn⟩
                      have S4 := Lib.hid hd
                      have R4 := Lib.hid (show RAt w4 b 61 rows from HR.out.grown hn.1 (ne_some (by have h1 := S.out.2.2.2.2.2.2.2.1; have h2 := Hmb.out; omega)))
                      clear hd hn b3
                      go_wp2_with fail
                      go_roundw
                      case rel => exact ⟨1 + 1, rows, _, by omega, by go_num, S4, R4, HL, HD2⟩
                      case measure => simp [intOf]
                · obtain rfl : c = 2 := by omega
                  have HDK := Lib.hid (show D = rK s p (3 - (2 + 1)) 2 A W (p - 0) 0 rows r from HD.out)
                  clear HD
                  go_wp2_with fail
                  go_loopw [49] (fun i wr => ∃ (k : Nat) (rows : List H3) (r : RS), k ≤ p ∧ i = .int .i64 (k : Int) ∧ Hid (Dec N w s m r A W wr) ∧ Hid (RAt wr b 61 rows) ∧ Hid (rows.length = p) ∧ Hid (D = rK s p (3 - (2 + 1)) 2 A W (p - k) k rows r)) (fun i _ => p - (intOf i).toNat)
                  case atStart => exact ⟨0, rows, r, by omega, rfl, S, HR, HL, HDK⟩
                  case round =>
                    clear S HR HL HDK
                    obtain ⟨k, rows, r, hk, rfl, S, HR, HL, HD⟩ := hrel
                    by_cases hlt : k < p
                    · have hkl : k < rows.length := by rw [HL.out]; exact hlt
                      obtain ⟨xa, hxa⟩ : ∃ x, clm 2 A = x := ⟨_, rfl⟩
                      obtain ⟨xw, hxw⟩ : ∃ x, clm 2 W = x := ⟨_, rfl⟩
                      have hxb := HBd.out 2
                      rw [hxa] at hxb
                      have HCel := Lib.hid (fun (W' : World) (r' : RS) (d : Dec N w s m r' A W W') => (show W'.cell? ⟨N + 2, 0, none⟩ = some (takeV (N + 1)) ∧ W'.cell? ⟨m, 2, none⟩ = some (.int .i64 xa) ∧ W'.cell? ⟨m + 1, 2, none⟩ = some (.int .i64 xw) from
                        ⟨(d.2.2.2.2.1.cell 0).trans rfl, by rw [← hxa]; exact d.2.2.2.2.2.1.cells.2.2, by rw [← hxw]; exact d.2.2.2.2.2.2.1.cells.2.2⟩))
                      unfold takeV at HCel
                      obtain ⟨e1, e2, e3⟩ := HCel.out wr r S.out
                      have hik : (k : Int) < (p : Int) := by omega
                      by_cases hf : tkE s r xw = 0
                      · have hvb := tkV_in s r xw hf
                        obtain ⟨v, hv⟩ : ∃ v, tkV s r xw = v := ⟨_, rfl⟩
                        rw [hv] at hvb
                        have HD2 := Lib.hid (show D = rK s p (3 - (2 + 1)) 2 A W (p - (k + 1)) (k + 1) (rows.set k (setC 2 (xa + v) rows[k])) (tkS s r xw) from HD.out.trans (rK_yes hxw hxa hv hf (by omega) hkl))
                        have PL := Lib.hid (fun (W' : World) (d : Dec N w s m r A W W') => dec_take d HSz.out hf)
                        rw [hv] at PL
                        have hv1 := hvb.2.2
                        have hv0 := hvb.1
                        have HKL := Lib.hid hkl
                        have HLen := Lib.hid (show (rows.set k (setC 2 (xa + v) rows[k])).length = p by rw [List.length_set]; exact HL.out)
                        clear hf hv hvb hxa hxw
                        go_wp2_with fail
                        go_region_held3 (fun W' => W'.cell? ⟨N + 2, 0, none⟩ = some (.func (.func 50) #[] #[.pointer (some ⟨N + 1, 0, none⟩)]) ∧ W'.cell? ⟨m, 2, none⟩ = some (.int .i64 xa) ∧ W'.cell? ⟨m + 1, 2, none⟩ = some (.int .i64 xw)) (first | exact ⟨e1, e2, e3⟩ | exact HC4.out | exact HCel.out _ _ (S4.out.far Hmb.out _))
                          ((go_at_call 50; refine (PL.out _ (S.out.drewN 1)).mono ?_; rintro e w4 ⟨rfl, hd, hn⟩; have S4 := Lib.hid hd; have R4 := Lib.hid (show RAt w4 b 61 rows from RAt.grown (HR.out.drewN 1) hn.1 (ne_some (by have h1 := S.out.2.2.2.2.2.2.2.1; have h2 := Hmb.out; omega))); have HC4 := Lib.hid (HCel.out w4 _ S4.out); obtain ⟨q0, q1, q2⟩ := R4.out.cells HKL.out; have f := R4.out.free (k * 3 + 2); clear hd hn))
                        all_goals
                          rw [show IntKind.i64.wrap (xa + v) = xa + v from IntWalk.i64_in _ (by omega)]
                          have S5 := Lib.hid (S4.out.far (p := ⟨b, k * 3 + 2, none⟩) Hmb.out (.int .i64 (xa + v)))
                          have R5 := Lib.hid (R4.out.set (c := 2) (by omega) HKL.out (xa + v))
                          clear q0 q1 q2 f e1 e2 e3
                          go_wp2_with fail
                          go_roundw
                          case rel => exact ⟨k + 1, _, _, by omega, by go_num, S5, R5, HLen, HD2⟩
                          case measure => simp [intOf]; omega
                      · have HDn := Lib.hid (show D = none from HD.out.trans (rK_no hxw hf (by omega)))
                        have PL := Lib.hid (fun (W' : World) (d : Dec N w s m r A W W') => dec_take_no d HSz.out hf)
                        clear hf hxa hxw
                        go_wp2_with fail
                        go_region_dies
                        all_goals
                          refine (PL.out _ (S.out.drewN 1)).mono ?_
                          rintro e w4 ⟨⟨x, hx, rfl⟩, hb⟩
                          exact ⟨rfl, hb, Or.inl ⟨HDn.out, x, hx, rfl⟩⟩
                    · obtain rfl : k = p := by omega
                      have HD2 := Lib.hid (show D = rC s k (3 - (2 + 1)) (2 + 1) A W rows (alg r.1, 0) from by
                        have h := HD.out
                        rw [Nat.sub_self k] at h
                        exact h)
                      have PA := Lib.hid (dec_align S.out HSz.out)
                      have b3 := S.out.2.2.2.1.cell 0
                      simp only [List.getElem?_toArray, List.getElem?_cons_zero] at b3
                      go_wp2_with fail
                      refine PA.out.mono ?_
                      rintro e w4 ⟨rfl, hd, hn⟩
                      have S4 := Lib.hid hd
                      have R4 := Lib.hid (show RAt w4 b 61 rows from HR.out.grown hn.1 (ne_some (by have h1 := S.out.2.2.2.2.2.2.2.1; have h2 := Hmb.out; omega)))
                      clear hd hn b3
                      go_wp2_with fail
                      go_roundw
                      case rel => exact ⟨2 + 1, rows, _, by omega, by go_num, S4, R4, HL, HD2⟩
                      case measure => simp [intOf]
                · obtain rfl : c = 3 := by omega
                  have HD3 := Lib.hid (show D = some rows from HD.out)
                  rw [show ((3 : Nat) : Int) = 3 from rfl]
                  clear HD HBd
                  have mk := make_hints p (by omega)
                  obtain ⟨h, hh⟩ : ∃ h, wr.heap.size = h := ⟨_, rfl⟩
                  obtain ⟨U3, hU3⟩ : ∃ U3, wr.alloc (.cells (madeCells #[.int .i64 0, .int .i64 0, .int .i64 0] (p * 3)) 35) = U3 := ⟨_, rfl⟩
                  have HB3 := Lib.hid (show Below N w U3 by rw [← hU3]; exact S.out.1.trans ((Below.refl _ _).alloc (by have h1 := S.out.2.2.2.2.2.2.2.1; have h2 := S.out.2.2.2.2.2.2.2.2; omega) _))
                  have HR3 := Lib.hid (show RAt U3 b 61 rows by rw [← hU3]; exact HR.out.below ((Below.refl _ wr).alloc (Nat.le_refl _) _) HR.out.lt)
                  have HO3 := Lib.hid (show RAt U3 h 35 (rows.take 0 ++ List.replicate (p - 0) (0, 0, 0)) by rw [← hU3, ← hh]; exact RAt.new (Blk.new _ _ _))
                  have Hbh := Lib.hid (show b < h by rw [← hh]; exact HR.out.lt)
                  have HNb := Lib.hid (show N < b by have h1 := S.out.2.2.2.2.2.2.2.1; have h2 := Hmb.out; omega)
                  go_upto_region 30 with fail
                  try rw [hU3]
                  try rw [hh]
                  clear hU3 hh S HR mk
                  go_wp2_with fail
                  go_loopw [74] (fun i wr => ∃ (k : Nat), k ≤ p ∧ i = .int .i64 (k : Int) ∧ Hid (Below N w wr) ∧ Hid (RAt wr b 61 rows) ∧ Hid (RAt wr h 35 (rows.take k ++ List.replicate (p - k) (0, 0, 0)))) (fun i _ => p - (intOf i).toNat)
                  case atStart => exact ⟨0, by omega, rfl, HB3, HR3, HO3⟩
                  case round =>
                    clear HB3 HR3 HO3
                    obtain ⟨k, hk, rfl, HB, HR, HO⟩ := hrel
                    by_cases hlt : k < p
                    · have hkl : k < rows.length := by rw [HL.out]; exact hlt
                      have hik : (k : Int) < (p : Int) := by omega
                      obtain ⟨c0, c1, c2⟩ := HR.out.cells hkl
                      obtain ⟨x, hx⟩ : ∃ x, rows[k].1 = x := ⟨_, rfl⟩
                      obtain ⟨y, hy⟩ : ∃ x, rows[k].2.1 = x := ⟨_, rfl⟩
                      obtain ⟨z, hz⟩ : ∃ x, rows[k].2.2 = x := ⟨_, rfl⟩
                      rw [hx] at c0
                      rw [hy] at c1
                      rw [hz] at c2
                      have HE := Lib.hid (show rows[k] = (x, y, z) by rw [← hx, ← hy, ← hz])
                      have HT := Lib.hid (take_set HL.out hkl _ HE.out)
                      clear hx hy hz
                      obtain ⟨g, hg⟩ : ∃ g, wr.heap.size = g := ⟨_, rfl⟩
                      obtain ⟨W4, hW4⟩ : ∃ W4, wr.alloc (.cells #[.int .i64 x, .int .i64 y, .int .i64 z] 61) = W4 := ⟨_, rfl⟩
                      have hbg : Below wr.heap.size wr W4 := by rw [← hW4]; exact (Below.refl _ _).alloc (Nat.le_refl _) _
                      have HNw := Lib.hid (show N ≤ wr.heap.size by have h1 := HR.out.lt; have h2 := HNb.out; omega)
                      have HB4 := Lib.hid (HB.out.trans (hbg.mono HNw.out))
                      have HR4 := Lib.hid (HR.out.below hbg HR.out.lt)
                      have HO4 := Lib.hid (HO.out.below hbg HO.out.lt)
                      have HN4 := Lib.hid (show N ≤ W4.heap.size from Nat.le_trans HNw.out hbg.size)
                      have HG4 := Lib.hid (show Blk W4 g 61 #[.int .i64 x, .int .i64 y, .int .i64 z] by rw [← hW4, ← hg]; exact Blk.new _ _ _)
                      go_upto_region 33 with fail
                      try rw [hW4]
                      try rw [hg]
                      clear hbg hW4 hg c0 c1 c2
                      have d0 := HG4.out.cell 0
                      have d1 := HG4.out.cell 1
                      have d2 := HG4.out.cell 2
                      simp only [List.getElem?_toArray, List.getElem?_cons_zero, List.getElem?_cons_succ] at d0 d1 d2
                      go_wp2_with fail
                      refine (hint_any x y z _).mono ?_
                      rintro e w5 ⟨rfl, hb⟩
                      have HB5 := Lib.hid (HB4.out.trans (hb.mono HN4.out))
                      have HR5 := Lib.hid (HR4.out.below hb HR4.out.lt)
                      have HO5 := Lib.hid (HO4.out.below hb HO4.out.lt)
                      clear hb d0 d1 d2
                      have hkO : k < (rows.take k ++ List.replicate (p - k) ((0, 0, 0) : H3)).length := by rw [List.length_append, List.length_take, List.length_replicate]; have := HL.out; omega
                      obtain ⟨q0, q1, q2⟩ := HO5.out.cells hkO
                      have f0 := HO5.out.free (k * 3)
                      have f1 := HO5.out.free (k * 3 + 1)
                      have f2 := HO5.out.free (k * 3 + 2)
                      have S1 := HO5.out.set (c := 0) (by omega) hkO x
                      have k1 : k < ((rows.take k ++ List.replicate (p - k) ((0, 0, 0) : H3)).set k (setC 0 x (rows.take k ++ List.replicate (p - k) ((0, 0, 0) : H3))[k])).length := by rw [List.length_set]; exact hkO
                      have S2 := S1.set (c := 1) (by omega) k1 y
                      have S3 := Lib.hid (S2.set (c := 2) (by omega) (by rw [List.length_set]; exact k1) z)
                      rw [set3, HT.out] at S3
                      have HR6 := Lib.hid (((HR5.out.far (p := ⟨h, k * 3, none⟩) (Nat.ne_of_lt Hbh.out) (.int .i64 x)).far (p := ⟨h, k * 3 + 1, none⟩) (Nat.ne_of_lt Hbh.out) (.int .i64 y)).far (p := ⟨h, k * 3 + 2, none⟩) (Nat.ne_of_lt Hbh.out) (.int .i64 z))
                      have hNh : N ≤ h := by have h1 := Hbh.out; have h2 := HNb.out; omega
                      have HB6 := Lib.hid (((HB5.out.setCell (p := ⟨h, k * 3, none⟩) hNh (.int .i64 x)).setCell (p := ⟨h, k * 3 + 1, none⟩) hNh (.int .i64 y)).setCell (p := ⟨h, k * 3 + 2, none⟩) hNh (.int .i64 z))
                      clear S1 S2 k1 hNh
                      go_wp2_with fail
                      go_roundw
                      case rel => exact ⟨k + 1, by omega, by go_num, HB6, HR6, S3⟩
                      case measure => simp [intOf]; omega
                    · obtain rfl : k = p := by omega
                      have HZ := Lib.hid (show RAt wr h 35 rows by
                        have e : rows.take k ++ List.replicate (k - k) ((0, 0, 0) : H3) = rows := by rw [Nat.sub_self, List.replicate_zero, List.append_nil, List.take_of_length_le (by rw [HL.out]; exact Nat.le_refl _)]
                        rw [e] at HO
                        exact HO.out)
                      go_wp2_with fail
                      go_ret
                      exact ⟨HB.out, Or.inr ⟨rows, h, k, HD3.out, by rw [HL.out]; rfl, HZ.out.hat, by have h1 := Hbh.out; have h2 := HNb.out; omega⟩⟩
end Go.Proofs.Ytkcnhdponcbjaaa
