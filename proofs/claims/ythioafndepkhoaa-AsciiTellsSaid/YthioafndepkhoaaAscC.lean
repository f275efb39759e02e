/-
  ascii's decoder in memory: its struct in a block, its bytes in a row of its own; and put.
-/
import Derived.Test.YthioafndepkhoaaAscB
import Derived.Test.YthioafndepkhoaaAscMath
import Derived.Test.YthioafndepkhoaaOctC
import Derived.Test.YthioafndepkhoaaTwo
import Derived.Deep.AppendLies
import Derived.Deep.QuietTactic
namespace Go.Proofs.Ythioafndepkhoaa
open Go.RowKit Oct Asc

theorem cellsOf_len (l : List UInt8) : (cellsOf l).length = l.length := by unfold cellsOf; rw [List.length_map]
theorem cellsOf_one (l : List UInt8) : ∀ u ∈ cellsOf l, u.oneCell' = true := by
  intro u hu
  unfold cellsOf at hu
  obtain ⟨b, _, rfl⟩ := List.mem_map.1 hu
  rfl
/-- The decoder: its struct is block g, its bytes lie in row r, both from B on. -/
def Dec (B : Nat) (w : World) (g : Nat) (r : Option Nat) (rest o : List UInt8) (m : Nat) : Prop :=
  ∃ (R : ByteArray) (v : Value), R.data.toList = rest ∧ R.size ≤ 4000000000 ∧ Blk w g 44 #[.string R, v, .int .i64 (m : Int)] ∧ w.ownsRow B 5 1 v o.length (cellsOf o) ∧ v.ownBlock = r ∧ r ≠ some g ∧ B ≤ g
/-- What a call on the decoder leaves. -/
def Put (B : Nat) (w : World) (g : Nat) (r : Option Nat) (rest o : List UInt8) (m : Nat) (w' : World) : Prop :=
  ∃ r', (r' = r ∨ ∃ k, r' = some k ∧ w.heap.size ≤ k) ∧ Dec B w' g r' rest o m ∧ Two w w' g r
theorem Put.same {B : Nat} {w : World} {g : Nat} {r : Option Nat} {rest o : List UInt8} {m : Nat} (h : Dec B w g r rest o m) : Put B w g r rest o m w := ⟨r, .inl rfl, h, Two.refl _ _ _⟩
theorem Dec.drewN {B : Nat} {w : World} {g : Nat} {r : Option Nat} {rest o : List UInt8} {m : Nat} (h : Dec B w g r rest o m) (n : Nat) : Dec B (w.drewN n) g r rest o m := h
theorem Put.drewN {B : Nat} {w w1 : World} {g : Nat} {r : Option Nat} {rest o : List UInt8} {m : Nat} (h : Put B w g r rest o m w1) (n : Nat) : Put B w g r rest o m (w1.drewN n) := by
  obtain ⟨r', hr, hd, ht⟩ := h
  exact ⟨r', hr, hd.drewN n, ht.drewN n⟩
theorem Put.then {B : Nat} {w w1 w2 : World} {g : Nat} {r r1 : Option Nat} {rest o : List UInt8} {m : Nat} (hr : r1 = r ∨ ∃ k, r1 = some k ∧ w.heap.size ≤ k) (ht : Two w w1 g r) (h : Put B w1 g r1 rest o m w2) : Put B w g r rest o m w2 := by
  obtain ⟨r', hr', hw, ht'⟩ := h
  refine ⟨r', ?_, hw, ht.trans ht' hr⟩
  rcases hr' with rfl | ⟨k, rfl, hk⟩
  · exact hr
  · exact .inr ⟨k, rfl, Nat.le_trans ht.size hk⟩
/-- A block that is made beside the decoder changes nothing of it. -/
theorem Dec.alloc {B : Nat} {w : World} {g : Nat} {r : Option Nat} {rest o : List UInt8} {m : Nat} (h : Dec B w g r rest o m) (x : Obj) : Dec B (w.alloc x) g r rest o m := by
  obtain ⟨R, v, h1, h2, h3, h4, h5, h6, h7⟩ := h
  exact ⟨R, v, h1, h2, h3.alloc _, h4.alloc _, h5, h6, h7⟩
/-- What a call that touches the struct alone leaves of the row. -/
theorem Dec.grown {B : Nat} {w w' : World} {g : Nat} {r : Option Nat} {rest' o : List UInt8} {m : Nat} {R' : ByteArray} {v : Value} (h4 : w.ownsRow B 5 1 v o.length (cellsOf o)) (h5 : v.ownBlock = r) (h6 : r ≠ some g) (h7 : B ≤ g) (hg : w.grownBy w' (some g))
    (hR : R'.data.toList = rest') (hs : R'.size ≤ 4000000000) (hX : Blk w' g 44 #[.string R', v, .int .i64 (m : Int)]) : Dec B w' g r rest' o m :=
  ⟨R', v, hR, hs, hX, h4.kept hg (by
    rcases h4.2 with ⟨rfl, _⟩ | ⟨k, cap, cur, rfl, _⟩
    · exact .inl rfl
    · refine .inr ?_
      rw [h5]
      exact h6), h5, h6, h7⟩
theorem two_of_grown {w w' : World} {g : Nat} {r : Option Nat} (hg : w.grownBy w' (some g)) : Two w w' g r := ⟨hg.os, hg.tape, hg.output, hg.size, fun k hk h1 _ => hg.block k hk (fun e => h1 (by injection e))⟩

set_option maxRecDepth 100000 in
set_option maxHeartbeats 4000000 in
theorem put_no (B g : Nat) (r : Option Nat) (rest o : List UInt8) (m : Nat) (ad : Option Addr) (n c : Nat) (w : World) (hm : m ≤ 1048576) (hol : o.length ≤ m) (hD : Dec B w g r rest o m) (hn : m < o.length + n) :
    Calls Try.prog 37 #[.pointer (some ⟨g, 0, none⟩), .slice ad n c] w fun e w' => e = gUp 5 ∧ ∃ q, w' = w.drewN q := by
  obtain ⟨R, v, h1, h2, h3, h4, h5, h6, h7⟩ := hD
  obtain ⟨A, C, rfl⟩ := own_form h4
  have c1 := h3.cell 1
  have c2 := h3.cell 2
  simp only [List.getElem?_toArray, List.getElem?_cons_zero, List.getElem?_cons_succ] at c1 c2
  obtain ⟨q, hq⟩ : ∃ q, o.length = q := ⟨_, rfl⟩
  rw [hq] at c1 hol hn
  have i1 : (m : Int) - (q : Int) < (n : Int) := by omega
  clear h1 h2 h3 h4 h5 h6 h7 hn hq
  go_enter Try.func37, Try.ntmps37
  go_wp2_with fail
  go_quiet (fail)
  go_wp2_with fail
  refine (up_any _ _).mono ?_
  rintro e w' ⟨rfl, rfl⟩
  exact ⟨rfl, rfl, _, rfl⟩

set_option maxRecDepth 100000 in
set_option maxHeartbeats 4000000 in
theorem put_ok (B g : Nat) (r : Option Nat) (rest o x : List UInt8) (m : Nat) (ad : Addr) (n c : Nat) (w : World) (hB : B ≤ w.heap.size) (hm : m ≤ 1048576) (hol : o.length + n ≤ m) (hD : Dec B w g r rest o m) (hx : x.length = n) (hn : 0 < n)
    (hnews : ∀ (W : World), (∀ k, k < w.heap.size → W.heap[k]? = w.heap[k]?) → ∀ (j : Nat) u, (cellsOf x)[j]? = some u → W.cell? (ad.add j) = some u) :
    Calls Try.prog 37 #[.pointer (some ⟨g, 0, none⟩), .slice (some ad) n c] w fun e w' => e = .returned (.tuple #[]) ∧ Put B w g r rest (o ++ x) m w' := by
  obtain ⟨i5, hi, hz0, hz1, hz2⟩ := info_parts info5
  obtain ⟨R, v, h1, h2, h3, h4, h5, h6, h7⟩ := hD
  have hgl := h3.lt
  obtain ⟨A, C, hv⟩ := own_form h4
  have c1 := h3.cell 1
  have c2 := h3.cell 2
  have f1 := h3.frozen 1
  simp only [List.getElem?_toArray, List.getElem?_cons_zero, List.getElem?_cons_succ] at c1 c2
  obtain ⟨q, hq⟩ : ∃ q, o.length = q := ⟨_, rfl⟩
  rw [hq] at h4 hol hv
  have i1 : ¬ (m : Int) - (q : Int) < (n : Int) := by omega
  have H3 := Lib.hid h3
  have H4 := Lib.hid h4
  have HQ := Lib.hid hq
  have HX := Lib.hid hx
  have HN := Lib.hid hnews
  have H12 := Lib.hid (And.intro h1 (And.intro h2 (And.intro h5 (And.intro h6 h7))))
  clear h1 h2 h3 h4 h5 h6 h7 hq hx hnews
  subst hv
  go_enter Try.func37, Try.ntmps37
  go_wp2_with fail
  go_quiet (fail)
  go_wp2_with (at_builtin; refine wpList_append_lies _ rfl _ _ _ rfl B 5 i5 (.int .u8 0) 1 1 Try.underlying30 hi hz0 hz1 hz2 rfl (by omega) (.slice A q C) q (cellsOf o) rfl (by exact H4.out) ad n c (cellsOf x) rfl (by rw [cellsOf_len, HX.out, Nat.mul_one]) (HN.out _ (fun _ _ => rfl)) (cellsOf_one x) hn (by unfold maxLen; omega) (by omega) hB w.heap.size rfl ?_; intro k cap w1 hown1 hgrow hat hlt1; obtain ⟨hR, hRs, hvr, hrg, hBg⟩ := H12.out; have h1 := (Blk.drewN H3.out nq).grown hgrow (fun e => hrg (hvr.symm.trans e.symm)); have f0 : w1.frozen? ⟨g, 1, none⟩ = false := h1.frozen 1; have c10 : w1.cell? ⟨g, 1, none⟩ = some (.slice A q C) := (h1.cell 1).trans rfl)
  go_end0
  have hkg : k ≠ g := by
    rcases hat with e | e
    · intro e2
      rw [e2] at e
      exact hrg (hvr.symm.trans e)
    · omega
  have hkw : some k = r ∨ w.heap.size ≤ k := by
    rcases hat with e | e
    · exact .inl (e.symm.trans hvr)
    · exact .inr (by omega)
  have hlen : (o ++ x).length = q + n := by rw [List.length_append, HQ.out, HX.out]
  refine ⟨rfl, some k, ?_, ⟨R, .slice (some ⟨k, 0, none⟩) (q + n) cap, hR, hRs, h1.set_ 1 _, ?_, rfl, fun e => hkg (by injection e), hBg⟩, ?_⟩
  · rcases hkw with e | e
    · exact .inl e
    · exact .inr ⟨k, rfl, e⟩
  · rw [hlen, cellsOf_append]
    exact ownsRow_setCell_other hown1 (fun e => hkg (by simpa [Value.ownBlock] using e)) _
  · exact (((Two.refl w g r).drewN nq).grown hgrow (.inl hvr)).set_ 1 _
end Go.Proofs.Ythioafndepkhoaa
