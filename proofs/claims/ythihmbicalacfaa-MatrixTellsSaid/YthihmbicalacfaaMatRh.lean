/-
  matrix.Object of any matrix.
-/
import Derived.Test.YthihmbicalacfaaMatRg
namespace Go.Proofs.Ythihmbicalacfaa
open Go.RowKit Fix Mat

/-- The first k coefficients as objects. -/
def objW (m : Mx) (k : Nat) : List (Int × Int) := (List.range k).map fun j => (kindU (m.at j), numW (m.at j))
theorem objW_len (m : Mx) (k : Nat) : (objW m k).length = k := by unfold objW; rw [List.length_map, List.length_range]
theorem objW_snoc (m : Mx) (k : Nat) : objW m (k + 1) = objW m k ++ [(kindU (m.at k), numW (m.at k))] := by unfold objW; rw [List.range_succ, List.map_append]; rfl
/-- What Object's rounds know. -/
structure ObjWt (w : World) (N R : Nat) (m : Mx) (k : Nat) (v : Value) (wr : World) : Prop where
  ba : Blk wr N 23 #[.int .i64 m.a, .int .i64 m.b, .int .i64 m.c, .int .i64 m.d, .int .i64 m.e, .int .i64 m.f]
  br : Blk wr R 31 #[.int .i64 0, .int .i64 0, .int .i64 0, .string ⟨#[]⟩, .slice none 0 0, .slice none 0 0]
  own : OwnO wr (R + 1) v k (objW m k)
  below : Below N w wr
theorem ObjWt.keep {w : World} {N R : Nat} {m : Mx} {k : Nat} {v : Value} {wr w' : World} (h : ObjWt w N R m k v wr) (hb : Below wr.heap.size wr w') (hN : N ≤ wr.heap.size) : ObjWt w N R m k v w' :=
  ⟨h.ba.below hb h.ba.lt, h.br.below hb h.br.lt, h.own.below hb, h.below.trans (hb.mono hN)⟩
set_option maxRecDepth 100000 in
set_option maxHeartbeats 8000000 in
theorem object_gen (m : Mx) (w : World) :
    Calls Try.prog 30 #[mxV m] w fun e w' => ∃ g c', e = .returned (.agg #[.int .i64 6, .int .i64 0, .int .i64 0, .string ⟨#[]⟩, .slice none 0 0, .slice (some ⟨g, 0, none⟩) 6 c']) ∧ ORow w' g (objW m 6) ∧ w.heap.size ≤ g ∧ Below w.heap.size w w' := by
  unfold mxV
  obtain ⟨N, hN⟩ : ∃ N, w.heap.size = N := ⟨_, rfl⟩
  obtain ⟨R, hR⟩ : ∃ R, N + 1 = R := ⟨_, rfl⟩
  obtain ⟨V, hV⟩ : ∃ V, (w.alloc (.cells #[.int .i64 m.a, .int .i64 m.b, .int .i64 m.c, .int .i64 m.d, .int .i64 m.e, .int .i64 m.f] 23)).alloc (.cells #[.int .i64 0, .int .i64 0, .int .i64 0, .string ⟨#[]⟩, .slice none 0 0, .slice none 0 0] 31) = V := ⟨_, rfl⟩
  have hVs : V.heap.size = R + 1 := by rw [← hV]; simp [hN]; omega
  have bA : Blk V N 23 #[.int .i64 m.a, .int .i64 m.b, .int .i64 m.c, .int .i64 m.d, .int .i64 m.e, .int .i64 m.f] := by
    rw [← hV, ← hN]
    exact (Blk.new w _ _).alloc _
  have bB : Blk V R 31 #[.int .i64 0, .int .i64 0, .int .i64 0, .string ⟨#[]⟩, .slice none 0 0, .slice none 0 0] := by
    rw [← hV]
    have := Blk.new (w.alloc (.cells #[.int .i64 m.a, .int .i64 m.b, .int .i64 m.c, .int .i64 m.d, .int .i64 m.e, .int .i64 m.f] 23)) 31 #[.int .i64 0, .int .i64 0, .int .i64 0, .string ⟨#[]⟩, .slice none 0 0, .slice none 0 0]
    rw [World.size_alloc, hN, hR] at this
    exact this
  have hBV : Below N w V := by rw [← hV, ← hN]; exact ((Below.refl _ w).alloc (Nat.le_refl _) _).alloc (by simp) _
  have HV := Lib.hid (And.intro bA (And.intro bB (And.intro hBV hVs)))
  have HNR := Lib.hid (show N ≤ R ∧ N < R + 1 by omega)
  rw [hN]
  go_enter Try.func30, Try.ntmps30
  go_upto_region 2 with fail
  clear bA bB hV hN hVs hR hBV
  go_wp2_with fail
  refine (cells_any N V).mono ?_
  rintro e w2 ⟨rfl, hb⟩
  have HI0 : Hid (ObjWt w N R m 0 (.slice none 0 0) w2) := Lib.hid ⟨HV.out.1.below hb HV.out.1.lt, HV.out.2.1.below hb HV.out.2.1.lt, World.ownsRow_nil w2 (R + 1) 31 6, HV.out.2.2.1.trans (hb.mono (by rw [HV.out.2.2.2]; have := HNR.out; omega))⟩
  obtain ⟨P, hP⟩ : ∃ P, ptrs N = P := ⟨_, rfl⟩
  have HP := Lib.hid (fun k (h : k < 6) (W : World) => hP ▸ ptrs_at N k h W)
  rw [hP]
  clear hb hP HV
  go_wp2_with fail
  go_loopw [3, 7] (fun v i wr => ∃ k : Nat, k ≤ 6 ∧ i = .int .i64 (k : Int) ∧ Hid (ObjWt w N R m k v wr)) (fun _ i _ => 6 - (intOf i).toNat)
  case atStart => exact ⟨0, by omega, rfl, HI0⟩
  case round =>
    clear HI0
    rename_i v
    obtain ⟨k, hk, rfl, HI⟩ := hrel
    by_cases hlt : k < 6
    · have hi := HP.out k hlt
      have hik : (k : Int) < 6 := by omega
      have hc : wr.cell? ⟨N, k, none⟩ = some (.int .i64 (m.at k)) := (HI.out.ba.cell k).trans (mxC_at m hlt)
      have HU := Lib.hid (units_gen (m.at k) wr)
      obtain ⟨z, hz⟩ : ∃ z, m.at k = z := ⟨_, rfl⟩
      have HSn := Lib.hid (objW_snoc m k)
      rw [hz] at hc HU HSn
      obtain ⟨x, hx⟩ : ∃ x, kindU z = x := ⟨_, rfl⟩
      obtain ⟨y, hy⟩ : ∃ y, numW z = y := ⟨_, rfl⟩
      rw [hx, hy] at HU HSn
      unfold oV at HU
      have HK := Lib.hid hlt
      clear hz hx hy hlt hk
      obtain ⟨i0, hi0, hz0, hz1, hz2⟩ := info_parts infoO
      go_wp2_with fail
      refine HU.out.mono ?_
      rintro e w3 ⟨rfl, hb⟩
      have HI3 := Lib.hid (HI.out.keep hb (Nat.le_of_lt HI.out.ba.lt))
      clear hb hc HU HI
      obtain ⟨G, hG⟩ : ∃ G, w3.heap.size = G := ⟨_, rfl⟩
      have hbG : R + 1 ≤ G := by rw [← hG]; exact HI3.out.br.lt
      have hk6 : k ≤ 6 := by have := HK.out; omega
      go_wp2_with (at_builtin; refine wpList_append_lies _ rfl _ _ _ rfl (R + 1) 31 i0 (.agg #[.int .i64 0, .int .i64 0, .int .i64 0, .string ⟨#[]⟩, .slice none 0 0, .slice none 0 0]) 6 88 Try.underlying29 hi0 hz0 hz1 hz2 rfl (by decide) _ k (obC (objW m k)) rfl (by exact HI3.out.own.below ((Below.refl _ w3).alloc (Nat.le_refl _) _)) ⟨G, 0, none⟩ 1 1 [.int .i64 x, .int .i64 y, .int .i64 0, .string ⟨#[]⟩, .slice none 0 0, .slice none 0 0] rfl rfl (by exact news_six w3 hG _ _ _ _ _ _ _) (by simp [Value.oneCell']) (by omega) (by unfold maxLen; omega) (by omega) (by simp [hG]; omega) (G + 1) (by simp [hG]) ?_; intro g cap w4 hown1 hgrow hat hlt1)
      have hb4 : Below (R + 1) w3 w4 := ((Below.refl (R + 1) w3).alloc (by omega) _).grown hgrow (by simp; omega) (fun q hq => (World.ownsRow.lt HI3.out.own q hq).1)
      have HI4 : Hid (ObjWt w N R m (k + 1) (.slice (some ⟨g, 0, none⟩) (k + 1) cap) w4) := Lib.hid ⟨HI3.out.ba.below hb4 (by have := HNR.out; omega), HI3.out.br.below hb4 (by omega), by
        show w4.ownsRow (R + 1) 31 6 _ _ (obC (objW m (k + 1)))
        rw [HSn.out, obC_snoc]
        exact hown1, HI3.out.below.trans (hb4.mono (by have := HNR.out; omega))⟩
      clear hown1 hgrow hat hlt1 hb4 hG
      go_roundw
      case rel => exact ⟨k + 1, by have := HK.out; omega, by go_num, HI4⟩
      case measure => simp [intOf]; have := HK.out; omega
    · obtain rfl : k = 6 := by omega
      obtain ⟨g0, c0, hv⟩ := own_some HI.out.own (by decide)
      subst hv
      have hlen := objW_len m 6
      have HA := Lib.hid (array_any g0 c0 (objW m 6) wr (OwnO.row HI.out.own hlen) (by rw [hlen]; decide) (by rw [hlen]; decide))
      rw [hlen] at HA
      have HBR := Lib.hid HI.out.br
      have HBl := Lib.hid HI.out.below
      have HZ := Lib.hid (show R < wr.heap.size from HI.out.br.lt)
      rw [show ((6 : Nat) : Int) = 6 from rfl]
      clear hlt hk hlen HI
      go_wp2_with fail
      refine HA.out.mono ?_
      rintro e w5 ⟨g, c, rfl, hrow, hg, hb⟩
      obtain ⟨⟨d0, d1, d2, d3, d4, d5⟩, ⟨f0, f1, f2, f3, f4, f5⟩⟩ := six_cells (HBR.out.below hb HBR.out.lt)
      have hgR : g ≠ R := by have := HZ.out; omega
      have HR := Lib.hid (show N ≤ g ∧ ORow ((((((w5.setCell ⟨R, 0, none⟩ (.int .i64 6)).setCell ⟨R, 1, none⟩ (.int .i64 0)).setCell ⟨R, 2, none⟩ (.int .i64 0)).setCell ⟨R, 3, none⟩ (.string ⟨#[]⟩)).setCell ⟨R, 4, none⟩ (.slice none 0 0)).setCell ⟨R, 5, none⟩ (.slice (some ⟨g, 0, none⟩) 6 c)) g (objW m 6) from ⟨by have := HZ.out; have := HNR.out; omega, ((((((hrow.far (p := ⟨R, 0, none⟩) hgR _).far (p := ⟨R, 1, none⟩) hgR _).far (p := ⟨R, 2, none⟩) hgR _).far (p := ⟨R, 3, none⟩) hgR _).far (p := ⟨R, 4, none⟩) hgR _).far (p := ⟨R, 5, none⟩) hgR _)⟩)
      have HW := Lib.hid (HBl.out.trans (hb.mono (by have := HZ.out; have := HNR.out; omega)))
      clear hb hrow hg hgR
      go_wp2_with fail
      refine bodyPost_ret (v := .agg #[.int .i64 6, .int .i64 0, .int .i64 0, .string ⟨#[]⟩, .slice none 0 0, .slice (some ⟨g, 0, none⟩) 6 c]) (by simp [results, Try.results30, go_sem, d0, d1, d2, d3, d4, d5]) rfl ?_
      exact ⟨g, c, rfl, HR.out.2, HR.out.1, below_six HW.out HNR.out.1 _ _ _ _ _ _⟩
end Go.Proofs.Ythihmbicalacfaa
