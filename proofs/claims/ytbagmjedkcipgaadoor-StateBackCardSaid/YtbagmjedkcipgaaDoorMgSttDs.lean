/-
  Lists of dashes out of an operand.
-/
import Derived.Test.YtbagmjedkcipgaaDoorMgSttTf
import Derived.Test.YtbagmjedkcipgaaDoorMgSttN
import Derived.OwnWalk
import Derived.Deep.AppendLies
import Derived.Deep.Cut
namespace Go.Proofs.YtbagmjedkcipgaaDoor
open Go.RowKit
attribute [-go_sem] Builtin.append_

/-- Numbers, or what stands for them, in a row of objects: their kinds and their numbers. -/
def RowAt (W : World) (A : Option Addr) (l : List (Int × Int)) : Prop := ∀ j (h : j < l.length), ∃ b off : Nat, A = some ⟨b, off, none⟩ ∧ NumAt W b (off + j * 6) l[j].1 l[j].2
theorem RowAt.below {W W' : World} {A : Option Addr} {l : List (Int × Int)} (h : RowAt W A l) (hb : Below W.heap.size W W') : RowAt W' A l := fun j hj => by
  obtain ⟨b, off, h1, h2⟩ := h j hj
  exact ⟨b, off, h1, h2.below hb⟩
def otherK (k : Int) : Bool := k != 2 && k != 3
set_option maxRecDepth 100000 in
theorem dash1_any (k y z : Int) (t : ByteArray) (q r : Value) (W : World) :
    Calls Tryd.prog 65 #[.agg #[.int .i64 k, .int .i64 y, .int .i64 z, .string t, q, r]] W fun e w' => e = .returned (.bool (otherK k)) ∧ Below W.heap.size W w' := by
  by_cases h2 : k = 2
  · subst h2
    rw [show otherK 2 = false from rfl]
    go_enter Tryd.func65, Tryd.ntmps65
    go_wp2_with fail
    go_ret
    exact ⟨rfl, (Below.refl _ W).alloc (Nat.le_refl _) _⟩
  · by_cases h3 : k = 3
    · subst h3
      rw [show otherK 3 = false from rfl]
      go_enter Tryd.func65, Tryd.ntmps65
      go_wp2_with fail
      go_ret
      exact ⟨rfl, (Below.refl _ W).alloc (Nat.le_refl _) _⟩
    · rw [show otherK k = true by simp [otherK, h2, h3]]
      go_enter Tryd.func65, Tryd.ntmps65
      go_wp2_with fail
      go_ret
      exact ⟨by simp [h2, h3], (Below.refl _ W).alloc (Nat.le_refl _) _⟩

def anyOther (l : List (Int × Int)) : Bool := l.any fun p => otherK p.1
theorem any_no {l : List (Int × Int)} (h : anyOther l = false) (i : Nat) (hi : i < l.length) : otherK l[i].1 = false := by
  unfold anyOther at h
  have := List.any_eq_false.1 h _ (List.getElem_mem hi)
  simpa using this
set_option maxRecDepth 100000 in
set_option maxHeartbeats 4000000 in
theorem indexFunc_any (A : Option Addr) (c : Nat) (l : List (Int × Int)) (W : World) (h : RowAt W A l) (hl : l.length ≤ 1000000) :
    Calls Tryd.prog 79 #[.slice A l.length c, .func (.func 65) #[] #[]] W fun e w' => (∃ z : Int, e = .returned (.int .i64 z) ∧ (0 ≤ z ↔ anyOther l = true)) ∧ Below W.heap.size W w' := by
  obtain ⟨H, hH⟩ : ∃ H, W.heap.size = H := ⟨_, rfl⟩
  have HA := Lib.hid (fun (V : World) (hV : Below H W V) => h.below (by rw [hH]; exact hV))
  obtain ⟨p, hp⟩ : ∃ p, l.length = p := ⟨_, rfl⟩
  have HP := Lib.hid hp
  have HH := Lib.hid hH
  rw [hp] at hl ⊢
  have hpI : (p : Int) ≤ 1000000 := by omega
  clear h hl hp hH
  go_enter Tryd.func79, Tryd.ntmps79
  go_wp2_with fail
  go_loopw [8] (fun vi wr => ∃ i : Nat, i ≤ p ∧ vi = .int .i64 (i : Int) ∧ Hid (Below H W wr ∧ anyOther (l.take i) = false)) (fun vi _ => p - (intOf vi).toNat)
  case atStart => exact ⟨0, by omega, rfl, Lib.hid ⟨by rw [← HH.out]; exact Below.refl _ _, rfl⟩⟩
  case round =>
    obtain ⟨i, hi, rfl, HN⟩ := hrel
    by_cases hlt : i < p
    · have hik : (i : Int) < (p : Int) := by omega
      have hik0 : (0 : Int) ≤ (i : Int) := by omega
      have hil : i < l.length := by rw [HP.out]; exact hlt
      obtain ⟨b, off, rfl, z, t, q, r, hb, c0, c1, c2, c3, c4, c5⟩ := (HA.out wr HN.out.1) i hil
      have HT := Lib.hid (show anyOther (l.take (i + 1)) = (anyOther (l.take i) || otherK l[i].1) by
        unfold anyOther
        rw [List.take_succ_eq_append_getElem hil, List.any_append]
        simp)
      have HAny := Lib.hid (show otherK l[i].1 = true → anyOther l = true from fun h => by
        unfold anyOther
        exact List.any_eq_true.2 ⟨_, List.getElem_mem hil, h⟩)
      obtain ⟨k, hk⟩ : ∃ k, l[i].1 = k := ⟨_, rfl⟩
      obtain ⟨y, hy⟩ : ∃ y, l[i].2 = y := ⟨_, rfl⟩
      rw [hk] at c0 HT HAny
      rw [hy] at c1
      have HC := Lib.hid (fun V : World => dash1_any k y z t q r V)
      obtain ⟨ok, hok⟩ : ∃ ok, otherK k = ok := ⟨_, rfl⟩
      rw [hok] at HC HT HAny
      rw [HN.out.2, Bool.false_or] at HT
      clear hk hy hil hok
      go_wp2_with fail
      refine (HC.out _).mono ?_
      rintro e w1 ⟨rfl, hb1⟩
      have HB := Lib.hid (show Below H W w1 from HN.out.1.trans (hb1.mono (by rw [← HH.out]; exact HN.out.1.size)))
      clear hb1 c0 c1 c2 c3 c4 c5
      cases ok with
      | true =>
        go_wp2_with fail
        go_ret
        exact ⟨⟨_, rfl, by simp [HAny.out (by trivial)]⟩, by rw [HH.out]; exact HB.out⟩
      | false =>
        go_wp2_with fail
        go_roundw
        case rel => exact ⟨i + 1, by omega, by go_num, Lib.hid ⟨HB.out, HT.out⟩⟩
        case measure => simp [intOf]; omega
    · obtain rfl : i = p := by omega
      have HF := Lib.hid (show anyOther l = false by have := HN.out.2; rwa [← HP.out, List.take_length] at this)
      go_wp2_with fail
      go_ret
      exact ⟨⟨_, rfl, by simp [HF.out]⟩, by rw [HH.out]; exact HN.out.1⟩
set_option maxRecDepth 100000 in
theorem containsFunc_any (A : Option Addr) (c : Nat) (l : List (Int × Int)) (W : World) (h : RowAt W A l) (hl : l.length ≤ 1000000) :
    Calls Tryd.prog 64 #[.slice A l.length c, .func (.func 65) #[] #[]] W fun e w' => e = .returned (.bool (anyOther l)) ∧ Below W.heap.size W w' := by
  have HC := Lib.hid (indexFunc_any A c l W h hl)
  obtain ⟨z, hz⟩ : ∃ z, anyOther l = z := ⟨_, rfl⟩
  rw [hz] at HC ⊢
  clear h hl hz
  go_enter Tryd.func64, Tryd.ntmps64
  go_wp2_with fail
  refine HC.out.mono ?_
  rintro e w1 ⟨⟨i, rfl, hi⟩, hb⟩
  have HB := Lib.hid hb
  clear hb HC
  cases z with
  | true =>
    have h0 : 0 ≤ i := by simpa using hi
    clear hi
    go_wp2_with fail
    go_ret
    exact ⟨by simp, HB.out⟩
  | false =>
    have h0 : ¬ 0 ≤ i := by simpa using hi
    clear hi
    go_wp2_with fail
    go_ret
    exact ⟨by simp [h0], HB.out⟩

/-- The array that an operand is. -/
def ArrAt (W : World) (b off : Nat) (A : Option Addr) (len c : Nat) : Prop := b < W.heap.size ∧ W.cell? ⟨b, off + 5, none⟩ = some (.slice A len c)
theorem ArrAt.below {W W' : World} {b off len c : Nat} {A : Option Addr} (h : ArrAt W b off A len c) (hb : Below W.heap.size W W') : ArrAt W' b off A len c :=
  ⟨Nat.lt_of_lt_of_le h.1 hb.size, (hb.cell (p := ⟨b, _, none⟩) h.1).trans h.2⟩
def okDash (l : List (Int × Int)) : Bool := l.all fun p => okTo p.1 p.2 1073741824
set_option maxRecDepth 100000 in
theorem dash_many (b off al ac : Nat) (A : Option Addr) (len c : Nat) (W : World) (h : ArrAt W b off A len c) (hal : 0 < al) (hm : 32 < len) :
    Calls Tryd.prog 43 #[.slice (some ⟨b, off, none⟩) al ac] W fun e w' => e = gUp 6 ∧ Below W.heap.size W w' := by
  have c5 := h.2
  have halI : (0 : Int) < (al : Int) := by omega
  have hal0 : 0 < al := hal
  have hmI : (32 : Int) < (len : Int) := by omega
  clear h
  go_enter Tryd.func43, Tryd.ntmps43
  go_wp2_with fail
  refine (up_any 6 _).mono ?_
  rintro e w' ⟨rfl, rfl⟩
  exact ⟨rfl, rfl, Below.refl _ _⟩
set_option maxRecDepth 100000 in
theorem dash_other (b off al ac : Nat) (A : Option Addr) (l : List (Int × Int)) (c : Nat) (W : World) (h : ArrAt W b off A l.length c) (hr : RowAt W A l) (hal : 0 < al) (hm : l.length ≤ 32) (ho : anyOther l = true) :
    Calls Tryd.prog 43 #[.slice (some ⟨b, off, none⟩) al ac] W fun e w' => e = gUp 28 ∧ Below W.heap.size W w' := by
  have c5 := h.2
  have halI : (0 : Int) < (al : Int) := by omega
  have hal0 : 0 < al := hal
  have hmI : ¬ (32 : Int) < (l.length : Int) := by omega
  have HC := Lib.hid (containsFunc_any A c l W hr (by omega))
  rw [ho] at HC
  clear h hr hm ho
  go_enter Tryd.func43, Tryd.ntmps43
  go_wp2_with fail
  refine HC.out.mono ?_
  rintro e w1 ⟨rfl, hb⟩
  have HB := Lib.hid hb
  clear hb
  go_wp2_with fail
  refine (up_any 28 _).mono ?_
  rintro e w' ⟨rfl, rfl⟩
  exact ⟨rfl, rfl, HB.out⟩
theorem infoI : (Tryd.prog.info? 2).map (fun i => (i.zero, i.size, i.bytes)) = some (some (.int .i64 0), 1, 8) := by kernel_rfl
def numC (l : List Int) : List Value := l.map fun z => .int .i64 z
set_option maxRecDepth 100000 in
set_option maxHeartbeats 4000000 in
theorem dash_ok (b off al ac : Nat) (A : Option Addr) (l : List (Int × Int)) (c : Nat) (W : World) (h : ArrAt W b off A l.length c) (hr : RowAt W A l) (hal : 0 < al) (hm : l.length ≤ 32) (ho : anyOther l = false) (hs : okDash l = true) :
    Calls Tryd.prog 43 #[.slice (some ⟨b, off, none⟩) al ac] W fun e w' => ∃ v, e = .returned v ∧ w'.ownsRow W.heap.size 2 1 v l.length (numC (unitsL l)) ∧ Below W.heap.size W w' := by
  have c5 := h.2
  have halI : (0 : Int) < (al : Int) := by omega
  have hal0 : 0 < al := hal
  have hmI : ¬ (32 : Int) < (l.length : Int) := by omega
  have hmI2 : (l.length : Int) ≤ 32 := by omega
  have HC := Lib.hid (containsFunc_any A c l W hr (by omega))
  rw [ho] at HC
  have hs' : ∀ j (hj : j < l.length), okTo l[j].1 l[j].2 1073741824 = true := fun j hj => by
    unfold okDash at hs
    exact List.all_eq_true.1 hs _ (List.getElem_mem hj)
  have HS := Lib.hid hs'
  obtain ⟨H, hH⟩ : ∃ H, W.heap.size = H := ⟨_, rfl⟩
  have HA := Lib.hid (fun (V : World) (hV : Below H W V) => hr.below (by rw [hH]; exact hV))
  obtain ⟨p, hp⟩ : ∃ p, l.length = p := ⟨_, rfl⟩
  have HP := Lib.hid hp
  have HH := Lib.hid hH
  obtain ⟨i0, hi, hz0, hz1, hz2⟩ := info_parts infoI
  rw [hp] at c5 hmI hmI2 HC ⊢
  clear h hr hm ho hs hs' hp
  go_enter Tryd.func43, Tryd.ntmps43
  go_wp2_with fail
  refine HC.out.mono ?_
  rintro e w1 ⟨rfl, hb⟩
  have HB := Lib.hid hb
  clear hb c5
  go_upto_region 8 with fail
  go_loopw [4, 19] (fun vd vi wr => ∃ i : Nat, i ≤ p ∧ vi = .int .i64 (i : Int) ∧ Hid (Below H W wr ∧ wr.ownsRow H 2 1 vd i (numC (unitsL (l.take i))))) (fun _ vi _ => p - (intOf vi).toNat)
  case atStart => exact ⟨0, by omega, rfl, Lib.hid ⟨by rw [← HH.out]; exact HB.out, World.ownsRow_nil _ _ _ _⟩⟩
  case round =>
    obtain ⟨i, hi2, rfl, HN⟩ := hrel
    by_cases hlt : i < p
    · have hik : (i : Int) < (p : Int) := by omega
      have hik0 : (0 : Int) ≤ (i : Int) := by omega
      have hil : i < l.length := by rw [HP.out]; exact hlt
      obtain ⟨b2, off2, rfl, hnum⟩ := (HA.out _ HN.out.1) i hil
      have HW := Lib.hid (amount_ok b2 off2 i p c l[i].1 l[i].2 _ hnum hlt (HS.out i hil))
      have HT := Lib.hid (unitsL_take hil)
      obtain ⟨u, hu⟩ : ∃ u, unitsOf l[i].1 l[i].2 = u := ⟨_, rfl⟩
      rw [hu] at HW HT
      clear hu hil hnum
      go_wp2_with fail
      refine HW.out.mono ?_
      rintro e w2 ⟨rfl, hb⟩
      have HB2 := Lib.hid (show Below H W w2 from HN.out.1.trans (hb.mono (by rw [← HH.out]; exact HN.out.1.size)))
      have HO := Lib.hid (own_below HN.out.2 hb)
      clear hb
      obtain ⟨A2, c2, rfl⟩ := own_form HO.out
      have hs2 : H ≤ w2.heap.size := by rw [← HH.out]; exact HB2.out.size
      go_wp2_with (at_builtin; refine wpList_append_lies _ rfl _ _ _ rfl H 2 i0 (.int .i64 0) 1 8 Tryd.underlying34 hi hz0 hz1 hz2 rfl (by decide) (.slice A2 i c2) i (numC (unitsL (l.take i))) rfl (by exact World.ownsRow.alloc HO.out _) ⟨w2.heap.size, 0, none⟩ 1 1 [.int .i64 u] rfl rfl (World.news_of_block (heap_alloc_new w2 _)) (by simp [Value.oneCell']) (by omega) (by unfold maxLen; omega) (by omega) (by simp; omega) (w2.heap.size + 1) (by simp) ?_; intro g cap2 w3 hown1 hgrow hat hlt1)
      have hB3 : Below H W (w2.alloc (.cells #[.int .i64 u] 2)) := HB2.out.alloc hs2 _
      have HB3 := Lib.hid (show Below H W w3 from hB3.grown hgrow (by simp; omega) (fun r hr => by have := (HO.out.lt r hr).1; omega))
      have HO3 := Lib.hid (show w3.ownsRow H 2 1 (.slice (some ⟨g, 0, none⟩) (i + 1) cap2) (i + 1) (numC (unitsL (l.take (i + 1)))) by
        rw [HT.out]
        unfold numC at *
        rw [List.map_append]
        exact hown1)
      clear hown1 hgrow hat hlt1 hB3
      go_roundw
      case rel => exact ⟨i + 1, by omega, by go_num, Lib.hid ⟨HB3.out, HO3.out⟩⟩
      case measure => simp [intOf]; omega
    · obtain rfl : i = p := by omega
      have HE := Lib.hid (show l.take i = l by rw [← HP.out, List.take_length])
      go_wp2_with fail
      go_ret
      exact ⟨_, rfl, by have := HN.out.2; rw [HE.out] at this; rw [HH.out]; exact this, by rw [HH.out]; exact HN.out.1⟩
set_option maxRecDepth 100000 in
set_option maxHeartbeats 4000000 in
theorem dash_no (b off al ac : Nat) (A : Option Addr) (l : List (Int × Int)) (c : Nat) (W : World) (h : ArrAt W b off A l.length c) (hr : RowAt W A l) (hal : 0 < al) (hm : l.length ≤ 32) (ho : anyOther l = false) (hs : okDash l = false) :
    Calls Tryd.prog 43 #[.slice (some ⟨b, off, none⟩) al ac] W fun e w' => e = gUp 2 ∧ Below W.heap.size W w' := by
  have c5 := h.2
  have halI : (0 : Int) < (al : Int) := by omega
  have hal0 : 0 < al := hal
  have hmI : ¬ (32 : Int) < (l.length : Int) := by omega
  have hmI2 : (l.length : Int) ≤ 32 := by omega
  have HC := Lib.hid (containsFunc_any A c l W hr (by omega))
  rw [ho] at HC
  have HS := Lib.hid hs
  obtain ⟨H, hH⟩ : ∃ H, W.heap.size = H := ⟨_, rfl⟩
  have HA := Lib.hid (fun (V : World) (hV : Below H W V) => hr.below (by rw [hH]; exact hV))
  obtain ⟨p, hp⟩ : ∃ p, l.length = p := ⟨_, rfl⟩
  have HP := Lib.hid hp
  have HH := Lib.hid hH
  obtain ⟨i0, hi, hz0, hz1, hz2⟩ := info_parts infoI
  rw [hp] at c5 hmI hmI2 HC
  clear h hr hm ho hs hp
  go_enter Tryd.func43, Tryd.ntmps43
  go_wp2_with fail
  refine HC.out.mono ?_
  rintro e w1 ⟨rfl, hb⟩
  have HB := Lib.hid hb
  clear hb c5
  go_upto_region 8 with fail
  go_loopw [4, 19] (fun vd vi wr => ∃ i : Nat, i ≤ p ∧ vi = .int .i64 (i : Int) ∧ Hid (Below H W wr ∧ wr.ownsRow H 2 1 vd i (numC (unitsL (l.take i))) ∧ okDash (l.take i) = true)) (fun _ vi _ => p - (intOf vi).toNat)
  case atStart => exact ⟨0, by omega, rfl, Lib.hid ⟨by rw [← HH.out]; exact HB.out, World.ownsRow_nil _ _ _ _, rfl⟩⟩
  case round =>
    obtain ⟨i, hi2, rfl, HN⟩ := hrel
    by_cases hlt : i < p
    · have hik : (i : Int) < (p : Int) := by omega
      have hik0 : (0 : Int) ≤ (i : Int) := by omega
      have hil : i < l.length := by rw [HP.out]; exact hlt
      obtain ⟨b2, off2, rfl, hnum⟩ := (HA.out _ HN.out.1) i hil
      by_cases hok : okTo l[i].1 l[i].2 1073741824 = true
      · have HK := Lib.hid (show okDash (l.take (i + 1)) = true by
          have h := HN.out.2.2
          unfold okDash at *
          rw [List.take_succ_eq_append_getElem hil, List.all_append, h]
          simp [hok])
        have HW := Lib.hid (amount_ok b2 off2 i p c l[i].1 l[i].2 _ hnum hlt hok)
        have HT := Lib.hid (unitsL_take hil)
        obtain ⟨u, hu⟩ : ∃ u, unitsOf l[i].1 l[i].2 = u := ⟨_, rfl⟩
        rw [hu] at HW HT
        clear hu hnum hok
        go_wp2_with fail
        refine HW.out.mono ?_
        rintro e w2 ⟨rfl, hb⟩
        have HB2 := Lib.hid (show Below H W w2 from HN.out.1.trans (hb.mono (by rw [← HH.out]; exact HN.out.1.size)))
        have HO := Lib.hid (own_below HN.out.2.1 hb)
        clear hb
        obtain ⟨A2, c2, rfl⟩ := own_form HO.out
        have hs2 : H ≤ w2.heap.size := by rw [← HH.out]; exact HB2.out.size
        go_wp2_with (at_builtin; refine wpList_append_lies _ rfl _ _ _ rfl H 2 i0 (.int .i64 0) 1 8 Tryd.underlying34 hi hz0 hz1 hz2 rfl (by decide) (.slice A2 i c2) i (numC (unitsL (l.take i))) rfl (by exact World.ownsRow.alloc HO.out _) ⟨w2.heap.size, 0, none⟩ 1 1 [.int .i64 u] rfl rfl (World.news_of_block (heap_alloc_new w2 _)) (by simp [Value.oneCell']) (by omega) (by unfold maxLen; omega) (by omega) (by simp; omega) (w2.heap.size + 1) (by simp) ?_; intro g cap2 w3 hown1 hgrow hat hlt1)
        have hB3 : Below H W (w2.alloc (.cells #[.int .i64 u] 2)) := HB2.out.alloc hs2 _
        have HB3 := Lib.hid (show Below H W w3 from hB3.grown hgrow (by simp; omega) (fun r hr => by have := (HO.out.lt r hr).1; omega))
        have HO3 := Lib.hid (show w3.ownsRow H 2 1 (.slice (some ⟨g, 0, none⟩) (i + 1) cap2) (i + 1) (numC (unitsL (l.take (i + 1)))) by
          rw [HT.out]
          unfold numC at *
          rw [List.map_append]
          exact hown1)
        clear hown1 hgrow hat hlt1 hB3
        go_roundw
        case rel => exact ⟨i + 1, by omega, by go_num, Lib.hid ⟨HB3.out, HO3.out, HK.out⟩⟩
        case measure => simp [intOf]; omega
      · have HW := Lib.hid (amount_no b2 off2 i p c l[i].1 l[i].2 _ hnum hlt (by simpa using hok))
        clear hok hnum
        go_wp2_with fail
        refine HW.out.mono ?_
        rintro e w2 ⟨rfl, hb⟩
        exact ⟨rfl, rfl, by rw [HH.out]; exact HN.out.1.trans (hb.mono (by rw [← HH.out]; exact HN.out.1.size))⟩
    · obtain rfl : i = p := by omega
      have hE : l.take i = l := by rw [← HP.out, List.take_length]
      have := HN.out.2.2
      rw [hE, HS.out] at this
      cases this

/-- What d changes. -/
theorem c8_ok (n : Nat) (M : Array Value) (b off al ac : Nat) (A : Option Addr) (l : List (Int × Int)) (c : Nat) (k y : Int) (W : World) (hb : Blk W n 57 M) (hM : M.size = 31) (h : ArrAt W b off A l.length c) (hr : RowAt W A l) (hal : 1 < al) (hm : l.length ≤ 32) (ho : anyOther l = false) (hs : okDash l = true)
    (h1 : NumAt W b (off + 6) k y) (hk : okTo k y 1073741824 = true) :
    Calls Tryd.prog 42 #[.pointer (some ⟨n, 0, none⟩), .slice (some ⟨b, off, none⟩) al ac] W fun e w' => e = .returned (.tuple #[]) ∧ (∃ v, Blk w' n 57 ((M.setIfInBounds 10 v).setIfInBounds 11 (.int .i64 (unitsOf k y))) ∧ v.oneCell' = true ∧ w'.ownsRow W.heap.size 2 1 v l.length (numC (unitsL l))) ∧ Two W w' n none := by
  have HD := Lib.hid (dash_ok b off al ac A l c W h hr (by omega) hm ho hs)
  have HN := Lib.hid (fun (V : World) (hV : Below W.heap.size W V) => amount_ok b off 1 al ac k y V (by rw [Nat.one_mul]; exact h1.below hV) hal hk)
  have HB := Lib.hid (And.intro hb hM)
  obtain ⟨u, hu⟩ : ∃ u, unitsOf k y = u := ⟨_, rfl⟩
  rw [hu] at HN
  rw [hu]
  clear hu hb hM h hr hal hm ho hs h1 hk
  go_enter Tryd.func42, Tryd.ntmps42
  go_wp2_with fail
  refine HD.out.mono ?_
  rintro e w1 ⟨v, rfl, hown, hb⟩
  have HO := Lib.hid hown
  have HB1 := Lib.hid hb
  obtain ⟨A1, c1, rfl⟩ := own_form hown
  clear hb hown HD
  go_wp2_with fail
  refine (HN.out _ HB1.out).mono ?_
  rintro e w2 ⟨rfl, hb⟩
  have hBW := HB1.out.trans (hb.mono HB1.out.size)
  have b2 := HB.out.1.below hBW HB.out.1.lt
  have c10 := b2.cell 10
  have c11 := b2.cell 11
  rw [Array.getElem?_eq_getElem (by rw [HB.out.2]; decide)] at c10 c11
  have f10 := b2.frozen 10
  have f11 := b2.frozen 11
  have HX := Lib.hid (And.intro b2 (And.intro (belowTwo hBW n none) (own_below HO.out hb)))
  clear hb hBW b2 HN
  go_wp2_with fail
  go_end0
  refine ⟨rfl, ⟨_, (HX.out.1.set_ 10 _).set_ 11 _, rfl, ?_⟩, (HX.out.2.1.set_ 10 _).set_ 11 _⟩
  refine own_same HX.out.2.2 fun g hg => ?_
  have hgW := (HX.out.2.2.lt g hg).1
  have := HB.out.1.lt
  rw [Below.heap_setCell _ _ _ _ (by show g ≠ n; omega), Below.heap_setCell _ _ _ _ (by show g ≠ n; omega)]
set_option maxRecDepth 100000 in
/-- Where d gives up. -/
theorem c8_no (n : Nat) (b off al ac : Nat) (A : Option Addr) (l : List (Int × Int)) (c : Nat) (k y : Int) (W : World) (h : ArrAt W b off A l.length c) (hr : RowAt W A l) (hal : 1 < al) (h1 : NumAt W b (off + 6) k y)
    (hs : 32 < l.length ∨ anyOther l = true ∨ okDash l = false ∨ okTo k y 1073741824 = false) :
    Calls Tryd.prog 42 #[.pointer (some ⟨n, 0, none⟩), .slice (some ⟨b, off, none⟩) al ac] W fun e w' => (∃ x, e = gUp x ∧ x = if 32 < l.length then 6 else if anyOther l = true then 28 else 2) ∧ Two W w' n none := by
  have up : ∀ x : Int, (Calls Tryd.prog 43 #[.slice (some ⟨b, off, none⟩) al ac] W fun e w' => e = gUp x ∧ Below W.heap.size W w') → Calls Tryd.prog 42 #[.pointer (some ⟨n, 0, none⟩), .slice (some ⟨b, off, none⟩) al ac] W fun e w' => e = gUp x ∧ Two W w' n none := fun x hx => by
    have HD := Lib.hid hx
    clear hx h hr h1 hs
    go_enter Tryd.func42, Tryd.ntmps42
    go_wp2_with fail
    refine HD.out.mono ?_
    rintro e w1 ⟨rfl, hb⟩
    exact ⟨rfl, rfl, belowTwo hb n none⟩
  by_cases h32 : 32 < l.length
  · exact (up 6 (dash_many b off al ac A l.length c W h (by omega) h32)).mono fun e w' hh => ⟨⟨6, hh.1, by rw [if_pos h32]⟩, hh.2⟩
  · by_cases hoth : anyOther l = true
    · exact (up 28 (dash_other b off al ac A l c W h hr (by omega) (by omega) hoth)).mono fun e w' hh => ⟨⟨28, hh.1, by rw [if_neg h32, if_pos hoth]⟩, hh.2⟩
    · have hoth' : anyOther l = false := by simpa using hoth
      by_cases hd : okDash l = true
      · have hk : okTo k y 1073741824 = false := by
          rcases hs with h | h | h | h
          · exact absurd h h32
          · exact absurd h hoth
          · rw [hd] at h; cases h
          · exact h
        have HD := Lib.hid (dash_ok b off al ac A l c W h hr (by omega) (by omega) hoth' hd)
        have HN := Lib.hid (fun (V : World) (hV : Below W.heap.size W V) => amount_no b off 1 al ac k y V (by rw [Nat.one_mul]; exact h1.below hV) hal hk)
        have hres : (2 : Int) = if 32 < l.length then 6 else if anyOther l = true then 28 else 2 := by rw [if_neg h32, if_neg hoth]
        suffices hh : Calls Tryd.prog 42 #[.pointer (some ⟨n, 0, none⟩), .slice (some ⟨b, off, none⟩) al ac] W fun e w' => e = gUp 2 ∧ Two W w' n none from hh.mono fun e w' hh => ⟨⟨2, hh.1, hres⟩, hh.2⟩
        clear up h hr h1 hs hres h32 hoth hoth' hd hk
        go_enter Tryd.func42, Tryd.ntmps42
        go_wp2_with fail
        refine HD.out.mono ?_
        rintro e w1 ⟨v, rfl, _, hb⟩
        have HB1 := Lib.hid hb
        clear hb
        go_wp2_with fail
        refine (HN.out _ HB1.out).mono ?_
        rintro e w2 ⟨rfl, hb⟩
        exact ⟨rfl, rfl, belowTwo (HB1.out.trans (hb.mono HB1.out.size)) n none⟩
      · exact (up 2 (dash_no b off al ac A l c W h hr (by omega) (by omega) hoth' (by simpa using hd))).mono fun e w' hh => ⟨⟨2, hh.1, by rw [if_neg h32, if_neg hoth]⟩, hh.2⟩
end Go.Proofs.YtbagmjedkcipgaaDoor
