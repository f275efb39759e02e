/-
  CodeReads' walk: the table's Read against the document's Sign.
-/
import Derived.Test.YtbgechfmbogbpaaCodRt
import Derived.Test.YtbgechfmbogbpaaCodLn
import Derived.Test.YtbgechfmbogbpaaBitD
namespace Go.Proofs.Ytbgechfmbogbpaa
open Go.RowKit Bt Cod

theorem code_lives2 (W : World) : Calls Try.prog 8 #[] W fun e w' => e = .returned (.bool true) ∧ Below W.heap.size W w' := lives_of lengths_example W
theorem below_of_now {D G : Nat} {w w' : World} (hg : w.grownBy w' (some G)) (h : D ≤ G) (hs : D ≤ w.heap.size) : Below D w w' :=
  ⟨hg.os, hg.tape, hg.output, hg.size, fun k hk => hg.block k (by omega) (by simp; omega)⟩
/-- What the loop's rounds know. -/
structure RdRel (N D b G : Nat) (L : List Int) (s : ByteArray) (w : World) (a : Nat) (W : World) : Prop where
  below : Below N w W
  tbl : TblAt D W b L
  rd : ∃ o : Int, (o = 0 ∨ o = 1) ∧ Rd 70 W G s a o
  at_ : a ≤ 8 * s.size
  sz : N ≤ W.heap.size ∧ D ≤ W.heap.size ∧ G < W.heap.size

set_option maxRecDepth 100000 in
set_option maxHeartbeats 8000000 in
theorem reads_any (A : Option Addr) (ca : Nat) (l : List Int) (s : ByteArray) (u : Int) (w : World) (hA : IAt w A l) (hAn : A = none → l.length = 0 ∧ ca = 0) (hu0 : 0 ≤ u) (_hu1 : u < 256) :
    Calls Try.prog 5 #[.slice A l.length ca, .string s, .int .u8 u] w fun e w' => e = .returned (.bool true) ∧ Below w.heap.size w w' := by
  have HLV := Lib.hid code_lives2
  obtain ⟨N, hN⟩ : ∃ N, w.heap.size = N := ⟨_, rfl⟩
  have HB := Lib.hid (hN ▸ Below.refl w.heap.size w : Below N w w)
  have HS := Lib.hid (Nat.le_of_eq hN.symm : N ≤ w.heap.size)
  have HA := Lib.hid (fun W (hb : Below N w W) => IAt.below hA (by rw [hN]; exact hb))
  have HAN := Lib.hid hAn
  clear hA hAn
  rw [hN]
  have HNw := Lib.hid hN
  clear hN
  obtain ⟨n, hn⟩ : ∃ n, l.length = n := ⟨_, rfl⟩
  have HN := Lib.hid hn
  by_cases h1 : 300 < n
  · have h1I : (300 : Int) < (n : Int) := by omega
    rw [hn]
    clear hn h1
    go_enter Try.func5, Try.ntmps5
    go_wp2_with fail
    refine (HLV.out w).mono ?_
    rintro e U1 ⟨rfl, hb⟩
    have HB := Lib.hid (HB.out.trans (hb.mono HS.out))
    clear hb
    go_wp2_with fail
    go_ret
    exact ⟨rfl, HB.out⟩
  · have h1I : (n : Int) ≤ 300 := by omega
    by_cases h2 : 100 < s.size
    · have h2I : (100 : Int) < (s.size : Int) := by omega
      rw [hn]
      clear hn h1 h2
      go_enter Try.func5, Try.ntmps5
      go_wp2_with fail
      refine (HLV.out w).mono ?_
      rintro e U1 ⟨rfl, hb⟩
      have HB := Lib.hid (HB.out.trans (hb.mono HS.out))
      clear hb
      go_wp2_with fail
      go_ret
      exact ⟨rfl, HB.out⟩
    · have h2I : (s.size : Int) ≤ 100 := by omega
      have hln : l.length ≤ 1000000 := by omega
      obtain ⟨z, hz⟩ : ∃ z, chkE l = z := ⟨_, rfl⟩
      by_cases h0 : z = 0
      · subst h0
        have HNe : Hid (∀ W, Below N w W → Calls Try.prog 11 #[.slice A n ca] W fun e w' => ∃ b : Nat, e = .returned (.tuple #[.pointer (some ⟨b, 0, none⟩), .int .i64 0]) ∧ W.heap.size ≤ b ∧ TblAt w'.heap.size w' b l ∧ Below W.heap.size W w') := Lib.hid (fun W hb => by have h := new_ok A ca l W (HA.out W hb) HAN.out hz; rw [hn] at h; exact h)
        have HFr := Lib.hid (fun W : World => rfrom_any s W)
        have HRd := Lib.hid (fun (D b g a : Nat) (o : Int) (W : World) (ht : TblAt D W b l) (hrd : Rd 70 W g s a o) (ho : o = 0 ∨ o = 1) (ha : a ≤ 8 * s.size) (hD : D ≤ g) => read_any D b g l s a o W ht hrd ho ha (by omega) hD hz)
        have HSg : Hid (∀ (a : Nat) (W : World), Below N w W → a ≤ 8 * s.size → Calls Try.prog 22 #[.slice A n ca, .string s, .int .i64 (a : Int)] W fun e w' => e = .returned (.tuple #[.int .i64 (rdS l s.data.toList (8 * s.size) a (longK l 16) 0).1, .int .i64 ((rdS l s.data.toList (8 * s.size) a (longK l 16) 0).2.2 : Int), .int .i64 (rdS l s.data.toList (8 * s.size) a (longK l 16) 0).2.1]) ∧ Below W.heap.size W w') := Lib.hid (fun a W hb ha => by have h := sign10 A ca l s a W (HA.out W hb) hz (by omega) ha; rw [hn] at h; exact h)
        have HLf := Lib.hid (fun (g a : Nat) (o : Int) (W : World) (h : Rd 70 W g s a o) (ha : a ≤ 8 * s.size) => rleft_any g s a o W h ha (by omega))
        have HX3 := Lib.hid (fun (a : Nat) (ha : a ≤ 8 * s.size) => rdS_at l s.data.toList (8 * s.size) a ha (longK l 16) 0 ha)
        obtain ⟨nn, hnn⟩ : ∃ nn : Nat, u % 40 = (nn : Int) := ⟨(u % 40).toNat, by omega⟩
        have hnb : (nn : Int) < 40 := by omega
        have hnw : IntKind.u8.wrap (u.tmod 40) = (nn : Int) := by rw [Int.tmod_eq_emod_of_nonneg hu0, hnn]; unfold IntKind.wrap; simp [IntKind.signed, IntKind.bits]; omega
        have htm : u.tmod 40 = (nn : Int) := by rw [Int.tmod_eq_emod_of_nonneg hu0, hnn]
        rw [hn]
        clear hn h1 h2 hln hz
        go_enter Try.func5, Try.ntmps5
        go_wp2_with fail
        refine (HNe.out w HB.out).mono ?_
        rintro e U1 ⟨b, rfl, hbN, htb, hb⟩
        have HB := Lib.hid (HB.out.trans (hb.mono HS.out))
        have HS := Lib.hid (Nat.le_trans HS.out hb.size)
        obtain ⟨D, hD⟩ : ∃ D, U1.heap.size = D := ⟨_, rfl⟩
        rw [hD] at htb
        have HT := Lib.hid htb
        have HD := Lib.hid hD
        clear hb htb hbN hD HNe
        go_wp2_with fail
        refine (HFr.out U1).mono ?_
        rintro e U2 ⟨rfl, hg, hrd, hsz⟩
        rw [HD.out] at hrd hsz ⊢
        have hb12 : Below D U1 U2 := ⟨hg.os, hg.tape, hg.output, hg.size, fun k hk => hg.block k (by rw [HD.out]; exact hk) (by simp)⟩
        have HI : Hid (RdRel N D b D l s w 0 U2) := Lib.hid ⟨HB.out.trans (hb12.mono (by rw [← HD.out]; exact HS.out)), HT.out.keep hb12, ⟨0, Or.inl rfl, hrd⟩, Nat.zero_le _, by rw [hsz]; have := HS.out; rw [HD.out] at this; omega⟩
        have HND : Hid (N ≤ D) := Lib.hid (by rw [← HD.out]; exact HS.out)
        clear hg hrd hsz hb12 HT HFr HB HS
        go_wp2_with fail
        go_loopw [10, 11] (fun av iv wr => ∃ k a : Nat, k ≤ nn ∧ av = .int .i64 (a : Int) ∧ iv = .int .i64 (k : Int) ∧ Hid (RdRel N D b D l s w a wr)) (fun _ iv _ => nn - (intOf iv).toNat)
        case atStart => exact ⟨0, 0, by omega, rfl, rfl, HI⟩
        case round =>
          clear HI
          obtain ⟨k, a, hk, rfl, rfl, HI⟩ := hrel
          by_cases hlt : k < nn
          · have hik : (k : Int) < (nn : Int) := by omega
            have HX := Lib.hid (HX3.out a HI.out.at_)
            have HSa := Lib.hid (fun W hb => HSg.out a W hb HI.out.at_)
            obtain ⟨od, hod, hrd⟩ := HI.out.rd
            have HRa := Lib.hid (HRd.out D b D a od wr HI.out.tbl hrd hod HI.out.at_ (Nat.le_refl _))
            obtain ⟨X1, X2, X3, hX⟩ : ∃ X1 X2 X3, rdS l s.data.toList (8 * s.size) a (longK l 16) 0 = (X1, X2, X3) := ⟨_, _, _, rfl⟩
            rw [hX] at HX HSa HRa
            clear hX hrd hod
            go_wp2_with fail
            refine HRa.out.mono ?_
            rintro e U3 ⟨rfl, o2, ho2, hnow⟩
            have hb3 := below_of_now hnow.1 (Nat.le_refl D) HI.out.sz.2.1
            have hbN3 : Below N w U3 := HI.out.below.trans (below_of_now hnow.1 HND.out HI.out.sz.1)
            have HI3 : Hid (RdRel N D b D l s w X3 U3) := Lib.hid ⟨hbN3, HI.out.tbl.keep hb3, ⟨o2, ho2, hnow.2⟩, HX.out, ⟨Nat.le_trans HI.out.sz.1 hnow.1.size, Nat.le_trans HI.out.sz.2.1 hnow.1.size, Nat.lt_of_lt_of_le HI.out.sz.2.2 hnow.1.size⟩⟩
            clear hb3 hbN3 hnow HRa HI ho2
            go_wp2_with fail
            refine (HSa.out U3 HI3.out.below).mono ?_
            rintro e U4 ⟨rfl, hb⟩
            have HI4 : Hid (RdRel N D b D l s w X3 U4) := Lib.hid ⟨HI3.out.below.trans (hb.mono HI3.out.sz.1), HI3.out.tbl.keep (hb.mono HI3.out.sz.2.1), HI3.out.rd.imp (fun o h => ⟨h.1, Blk.below h.2 hb HI3.out.sz.2.2⟩), HI3.out.at_, ⟨Nat.le_trans HI3.out.sz.1 hb.size, Nat.le_trans HI3.out.sz.2.1 hb.size, Nat.lt_of_lt_of_le HI3.out.sz.2.2 hb.size⟩⟩
            clear hb HI3 HSa
            obtain ⟨o4, ho4, hrd4⟩ := HI4.out.rd
            have HL4 := Lib.hid (HLf.out D X3 o4 U4 hrd4 HI4.out.at_)
            have hx3 : (X3 : Int) ≤ 800 := by have := HI4.out.at_; omega
            have hx30 : (0 : Int) ≤ (X3 : Int) := by omega
            have hs8 : ((8 * s.size : Nat) : Int) = 8 * (s.size : Int) := by push_cast; rfl
            rw [hs8] at HL4
            have HDr : Hid (∀ q, RdRel N D b D l s w X3 (U4.drewN q)) := Lib.hid (fun q => ⟨below_drewN HI4.out.below q, HI4.out.tbl.keep (below_drewN (Below.refl _ _) q), HI4.out.rd.imp (fun o h => ⟨h.1, Blk.drewN h.2 q⟩), HI4.out.at_, HI4.out.sz⟩)
            clear hrd4 ho4 hs8 HX
            by_cases hX2 : X2 = 0
            · subst hX2
              go_wp2_with fail
              refine HL4.out.mono ?_
              rintro e U5 ⟨rfl, q, rfl⟩
              have HI5 := Lib.hid (HDr.out q)
              clear HL4 HI4
              go_wp2_with fail
              go_roundw
              case rel => exact ⟨k + 1, X3, by omega, rfl, by go_num, HI5⟩
              case measure => simp [intOf]; omega
            · have hX2b : (X2 == 0) = false := by simpa using hX2
              have hX2c : ¬ X2 = 0 := hX2
              go_wp2_with fail
              refine HL4.out.mono ?_
              rintro e U5 ⟨rfl, q, rfl⟩
              have HI5 := Lib.hid (HDr.out q)
              clear HL4 HI4
              go_wp2_with fail
              refine (HLV.out _).mono ?_
              rintro e U6 ⟨rfl, hb⟩
              have HB6 := Lib.hid (HI5.out.below.trans (hb.mono HI5.out.sz.1))
              clear hb
              go_wp2_with fail
              go_ret
              exact ⟨rfl, HB6.out⟩
          · obtain rfl : k = nn := by omega
            go_wp2_with fail
            refine (HLV.out _).mono ?_
            rintro e U6 ⟨rfl, hb⟩
            have HB6 := Lib.hid (HI.out.below.trans (hb.mono HI.out.sz.1))
            clear hb
            go_wp2_with fail
            go_ret
            exact ⟨rfl, HB6.out⟩
      · have h0b : (z == 0) = false := by simpa using h0
        have HO3 : Hid (∀ W, Below N w W → Calls Try.prog 11 #[.slice A n ca] W fun e w' => e = .returned (.tuple #[.pointer none, .int .i64 z]) ∧ Below W.heap.size W w') := Lib.hid (fun W hb => by have h := new_no A ca l W (HA.out W hb) hln z hz h0; rw [hn] at h; exact h)
        rw [hn]
        clear hn h1 h2 hln hz
        go_enter Try.func5, Try.ntmps5
        go_wp2_with fail
        refine (HO3.out w HB.out).mono ?_
        rintro e U1 ⟨rfl, hb⟩
        have HB := Lib.hid (HB.out.trans (hb.mono HS.out))
        have HS := Lib.hid (Nat.le_trans HS.out hb.size)
        clear hb
        go_wp2_with fail
        refine (HLV.out U1).mono ?_
        rintro e U2 ⟨rfl, hb⟩
        have HB := Lib.hid (HB.out.trans (hb.mono HS.out))
        clear hb
        go_wp2_with fail
        go_ret
        exact ⟨rfl, HB.out⟩
end Go.Proofs.Ytbgechfmbogbpaa
