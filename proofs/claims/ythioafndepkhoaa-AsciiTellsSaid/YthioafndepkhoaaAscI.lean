/-
  ascii's decoded: what gives up is caught; Unhex, Unfive, Unrun.
-/
import Derived.Test.YthioafndepkhoaaAscH
namespace Go.Proofs.Ythioafndepkhoaa
open Go.RowKit Oct Asc Go.Shelf

def decS (F : Int × List UInt8) : ByteArray := if F.1 = 0 then ⟨F.2.toArray⟩ else ⟨#[]⟩
/-- The world in which decode works: the boxes of decode, of the decoder, of its pointer, and the error's. -/
structure DecAt (N : Nat) (w : World) (G : FuncId) (s : ByteArray) (m : Nat) : Prop where
  size : w.heap.size = N + 4
  fn : Blk w N 29 #[.func (.func G) #[] #[]]
  dec : Dec N w (N + 1) none s.data.toList [] m
  ptr : Blk w (N + 2) 42 #[.pointer (some ⟨N + 1, 0, none⟩)]
  err : Blk w (N + 3) 23 #[.int .i64 0]

set_option maxRecDepth 100000 in
set_option maxHeartbeats 4000000 in
theorem work_in (N : Nat) (G : FuncId) (s : ByteArray) (m : Nat) (F : Int × List UInt8) (w : World) (hA : DecAt N w G s m) (henter : ∀ (args : Array Value) (W : World), (callFunc G args).run Try.prog W = .ok (.enter G args) W)
    (hG : Calls Try.prog G #[.pointer (some ⟨N + 1, 0, none⟩)] w (DecEnd N w (N + 1) none m F)) :
    Calls Try.prog 34 #[.pointer (some ⟨N, 0, none⟩), .pointer (some ⟨N + 2, 0, none⟩)] w fun e w' =>
      ((F.1 = 0 ∧ e = .returned (.string ⟨F.2.toArray⟩)) ∨ (F.1 ≠ 0 ∧ e = gUp F.1)) ∧ Two w w' (N + 1) none := by
  have c0 : w.cell? ⟨N, 0, none⟩ = some (.func (.func G) #[] #[]) := hA.fn.cell 0
  have c2 : w.cell? ⟨N + 2, 0, none⟩ = some (.pointer (some ⟨N + 1, 0, none⟩)) := hA.ptr.cell 0
  have HA := Lib.hid hA
  have HG := Lib.hid hG
  clear hA hG
  go_enter Try.func34, Try.ntmps34
  go_wp2_with fail
  refine HG.out.mono ?_
  rintro e w1 he
  rcases he with ⟨h1, rfl, rest, r', hr, hD, hT⟩ | ⟨h1, rfl, hT⟩
  · have HT := Lib.hid hT
    have hX2 := hT.blk HA.out.ptr (by omega) (by simp)
    have d2 : w1.cell? ⟨N + 2, 0, none⟩ = some (.pointer (some ⟨N + 1, 0, none⟩)) := hX2.cell 0
    obtain ⟨R, v, k1, k2, k3, k4, k5, k6, k7⟩ := hD
    obtain ⟨A, C, hv⟩ := own_form k4
    have hstr := run_string_of_own k4 rfl
    obtain ⟨q, hq⟩ : ∃ q, F.2.length = q := ⟨_, rfl⟩
    rw [hq] at hv
    subst hv
    have d1 : w1.cell? ⟨N + 1, 1, none⟩ = some (.slice A q C) := k3.cell 1
    have HF := Lib.hid h1
    clear hT hX2 k1 k2 k3 k4 k5 k6 k7 h1 hr hq
    go_wp2_with fail
    go_ret
    exact ⟨.inl ⟨HF.out, rfl⟩, HT.out⟩
  · exact ⟨rfl, .inr ⟨h1, rfl⟩, hT⟩

/-- What decoded answers, where F is what its decoder makes of s. -/
def DecodedIs (F : Int × List UInt8) (w : World) (e : Ending) (w' : World) : Prop := e = .returned (.tuple #[.string (decS F), .int .i64 F.1]) ∧ Below w.heap.size w w'
set_option maxRecDepth 100000 in
set_option maxHeartbeats 4000000 in
theorem decoded_no (G : FuncId) (s : ByteArray) (n : Int) (w : World) (hn : n < 0) :
    Calls Try.prog 17 #[.string s, .int .i64 n, .func (.func G) #[] #[]] w fun e w' => e = .returned (.tuple #[.string ⟨#[]⟩, .int .i64 1]) ∧ Below w.heap.size w w' := by
  have hb := Below.refl w.heap.size w
  go_enter Try.func17, Try.ntmps17
  go_wp2_with fail
  go_ret2
  exact ⟨rfl, hb.alloc (Nat.le_refl _) _⟩
set_option maxRecDepth 100000 in
set_option maxHeartbeats 4000000 in
theorem decoded_in (G : FuncId) (s : ByteArray) (n : Int) (F : Int × List UInt8) (w : World) (hs : s.size ≤ 4000000000) (hn : 0 ≤ n) (henter : ∀ (args : Array Value) (W : World), (callFunc G args).run Try.prog W = .ok (.enter G args) W)
    (hG : ∀ (N : Nat) (W : World), N ≤ W.heap.size → Dec N W (N + 1) none s.data.toList [] (min n 1048576).toNat → Calls Try.prog G #[.pointer (some ⟨N + 1, 0, none⟩)] W (DecEnd N W (N + 1) none (min n 1048576).toNat F)) :
    Calls Try.prog 17 #[.string s, .int .i64 n, .func (.func G) #[] #[]] w (DecodedIs F w) := by
  obtain ⟨m, hm⟩ : ∃ m, (min n 1048576).toNat = m := ⟨_, rfl⟩
  have hmi : min n 1048576 = (m : Int) := by omega
  rw [hm] at hG
  have HG := Lib.hid hG
  have HS := Lib.hid hs
  have hn0 : ¬ n < 0 := by omega
  have hb := Below.refl w.heap.size w
  have HB := Lib.hid hb
  clear hG hs hb
  have hmf : ∀ (fn : Fn) (first cap : Array Value) (w : World), (Instr.makeFunc fn first cap).run Try.prog w = .ok (.func fn first cap) w := fun _ _ _ _ => rfl
  go_enter Try.func17, Try.ntmps17
  go_wp2_with fail
  obtain ⟨W, hW⟩ : ∃ W, (((w.alloc (.cells #[.func (.func G) #[] #[]] 29)).alloc (.cells #[.string s, .slice none 0 0, .int .i64 (m : Int)] 44)).alloc (.cells #[.pointer (some ⟨w.heap.size + 1, 0, none⟩)] 42)) = W := ⟨_, rfl⟩
  have hAt : DecAt w.heap.size (W.alloc (.cells #[.int .i64 0] 23)) G s m := by
    rw [← hW]
    have z1 : (w.alloc (.cells #[.func (.func G) #[] #[]] 29)).heap.size = w.heap.size + 1 := World.size_alloc _ _
    have z2 : ((w.alloc (.cells #[.func (.func G) #[] #[]] 29)).alloc (.cells #[.string s, .slice none 0 0, .int .i64 (m : Int)] 44)).heap.size = w.heap.size + 2 := by rw [World.size_alloc, z1]
    have z3 : (((w.alloc (.cells #[.func (.func G) #[] #[]] 29)).alloc (.cells #[.string s, .slice none 0 0, .int .i64 (m : Int)] 44)).alloc (.cells #[.pointer (some ⟨w.heap.size + 1, 0, none⟩)] 42)).heap.size = w.heap.size + 3 := by rw [World.size_alloc, z2]
    have b1 := Blk.new (w.alloc (.cells #[.func (.func G) #[] #[]] 29)) 44 #[.string s, .slice none 0 0, .int .i64 (m : Int)]
    rw [z1] at b1
    have b2 := Blk.new ((w.alloc (.cells #[.func (.func G) #[] #[]] 29)).alloc (.cells #[.string s, .slice none 0 0, .int .i64 (m : Int)] 44)) 42 #[.pointer (some ⟨w.heap.size + 1, 0, none⟩)]
    rw [z2] at b2
    have b3 := Blk.new (((w.alloc (.cells #[.func (.func G) #[] #[]] 29)).alloc (.cells #[.string s, .slice none 0 0, .int .i64 (m : Int)] 44)).alloc (.cells #[.pointer (some ⟨w.heap.size + 1, 0, none⟩)] 42)) 23 #[.int .i64 0]
    rw [z3] at b3
    exact ⟨by rw [World.size_alloc, z3], ((Blk.new w _ _).alloc _).alloc _ |>.alloc _, ⟨s, .slice none 0 0, rfl, HS.out, (b1.alloc _).alloc _, World.ownsRow_nil _ _ _ _, rfl, by simp, by omega⟩, b2.alloc _, b3⟩
  have hbW : Below w.heap.size w (W.alloc (.cells #[.int .i64 0] 23)) := by
    rw [← hW]
    exact (((HB.out.alloc (Nat.le_refl _) _).alloc (by simp) _).alloc (by simp; omega) _).alloc (by simp; omega) _
  have hWs : W.heap.size = w.heap.size + 3 := by have := hAt.size; rw [World.size_alloc] at this; omega
  have hin : ∀ (args : Array Value) (W : World), (callFunc 34 args).run Try.prog W = .ok (.enter 34 args) W := fun _ _ => by kernel_rfl
  have hwork := work_in w.heap.size G s m F _ hAt henter (HG.out _ _ (by rw [hAt.size]; omega) hAt.dec)
  have hkeep : ∀ w', Two (W.alloc (.cells #[.int .i64 0] 23)) w' (w.heap.size + 1) none → Blk w' W.heap.size 23 #[.int .i64 0] := fun w' h => by
    rw [hWs]
    exact h.blk hAt.err (by omega) (by simp)
  have hend : ∀ w' (u : Value), Two (W.alloc (.cells #[.int .i64 0] 23)) w' (w.heap.size + 1) none → Below w.heap.size w (w'.setCell ⟨W.heap.size, 0, none⟩ u) := fun w' u h => by
    refine set_low (hbW.trans ((h.below (B := w.heap.size) (by rw [hAt.size]; omega) (by omega) (fun k hk => by cases hk)).mono ?_)) (by omega) _ _
    exact Nat.le_refl _
  have HE := Lib.hid hend
  have HK := Lib.hid hkeep
  have HWk := Lib.hid hwork
  have HI := Lib.hid hin
  have hsz : w.heap.size + 1 + 1 = w.heap.size + 2 := rfl
  by_cases h0 : F.1 = 0
  · have hcaught := caught_ok 34 #[.pointer (some ⟨w.heap.size, 0, none⟩), .pointer (some ⟨w.heap.size + 1 + 1, 0, none⟩)] ⟨F.2.toArray⟩ (fun w' => Two (W.alloc (.cells #[.int .i64 0] 23)) w' (w.heap.size + 1) none) W (hin _) hkeep (hwork.mono fun e w' ⟨h1, h2⟩ => ⟨by
      rcases h1 with ⟨_, h⟩ | ⟨h, _⟩
      · exact h
      · exact absurd h0 h, h2⟩)
    rw [hW]
    refine hcaught.mono ?_
    rintro e w' ⟨rfl, w1, h1, rfl⟩
    have h3 := HE.out w1 (.int .i64 0) h1
    rw [hWs] at h3
    have HB2 := Lib.hid h3
    have HF := Lib.hid h0
    clear h1 h0 h3 hcaught hAt hbW hwork hkeep hend hin
    go_wp2_with fail
    go_ret2
    refine ⟨?_, HB2.out⟩
    unfold decS
    rw [if_pos HF.out, HF.out]
    rfl
  · have hcaught := caught_no 34 #[.pointer (some ⟨w.heap.size, 0, none⟩), .pointer (some ⟨w.heap.size + 1 + 1, 0, none⟩)] F.1 (fun w' => Two (W.alloc (.cells #[.int .i64 0] 23)) w' (w.heap.size + 1) none) W (hin _) hkeep (hwork.mono fun e w' ⟨h1, h2⟩ => ⟨by
      rcases h1 with ⟨h, _⟩ | ⟨_, h⟩
      · exact absurd h h0
      · exact h, h2⟩)
    rw [hW]
    refine hcaught.mono ?_
    rintro e w' ⟨rfl, w1, h1, rfl⟩
    have h3 := HE.out w1 (.int .i64 F.1) h1
    rw [hWs] at h3
    have HB2 := Lib.hid h3
    have HF := Lib.hid h0
    clear h1 h0 h3 hcaught hAt hbW hwork hkeep hend hin
    go_wp2_with fail
    go_ret2
    refine ⟨?_, HB2.out⟩
    unfold decS
    rw [if_neg HF.out]
    rfl

/-- The answers of the three decoders. -/
def unhexF (s : ByteArray) (n : Int) : Int × List UInt8 := if n < 0 then (1, []) else hexD (min n 1048576).toNat [] none s.data.toList
def unfiveF (s : ByteArray) (n : Int) : Int × List UInt8 := if n < 0 then (1, []) else fiveD (min n 1048576).toNat [] [] s.data.toList
def unrunF (s : ByteArray) (n : Int) : Int × List UInt8 := if n < 0 then (1, []) else runD (min n 1048576).toNat [] s.data.toList
theorem dec_bad : decS (1, []) = ⟨#[]⟩ := rfl

set_option maxHeartbeats 1000000 in
theorem aunhex_any (s : ByteArray) (n : Int) (w : World) (hs : s.size ≤ 4000000000) :
    Calls Try.prog 5 #[.string s, .int .i64 n] w (DecodedIs (unhexF s n) w) := by
  have hc : Calls Try.prog 17 #[.string s, .int .i64 n, .func (.func 18) #[] #[]] w (DecodedIs (unhexF s n) w) := by
    by_cases hn : n < 0
    · have hF : unhexF s n = (1, []) := by unfold unhexF; rw [if_pos hn]
      rw [hF]
      exact decoded_no _ s n w hn
    · have hF : unhexF s n = hexD (min n 1048576).toNat [] none s.data.toList := by unfold unhexF; rw [if_neg hn]
      rw [hF]
      exact decoded_in 18 s n _ w hs (by omega) (fun _ _ => by kernel_rfl) fun N W hN hD => unhex_in N (N + 1) none s.data.toList _ W hN (by omega) _ rfl hD
  have HC := Lib.hid hc
  clear hc
  obtain ⟨F, hF⟩ : ∃ F, unhexF s n = F := ⟨_, rfl⟩
  rw [hF] at HC ⊢
  clear hF
  go_enter Try.func5, Try.ntmps5
  go_wp2_with fail
  refine HC.out.mono ?_
  rintro e w' ⟨rfl, hb⟩
  go_wp2_with fail
  go_ret2
  exact ⟨rfl, hb⟩
set_option maxHeartbeats 1000000 in
theorem aunfive_any (s : ByteArray) (n : Int) (w : World) (hs : s.size ≤ 4000000000) :
    Calls Try.prog 7 #[.string s, .int .i64 n] w (DecodedIs (unfiveF s n) w) := by
  have hc : Calls Try.prog 17 #[.string s, .int .i64 n, .func (.func 21) #[] #[]] w (DecodedIs (unfiveF s n) w) := by
    by_cases hn : n < 0
    · have hF : unfiveF s n = (1, []) := by unfold unfiveF; rw [if_pos hn]
      rw [hF]
      exact decoded_no _ s n w hn
    · have hF : unfiveF s n = fiveD (min n 1048576).toNat [] [] s.data.toList := by unfold unfiveF; rw [if_neg hn]
      rw [hF]
      exact decoded_in 21 s n _ w hs (by omega) (fun _ _ => by kernel_rfl) fun N W hN hD => unfive_in N (N + 1) none s.data.toList _ W hN (by omega) _ rfl hD
  have HC := Lib.hid hc
  clear hc
  obtain ⟨F, hF⟩ : ∃ F, unfiveF s n = F := ⟨_, rfl⟩
  rw [hF] at HC ⊢
  clear hF
  go_enter Try.func7, Try.ntmps7
  go_wp2_with fail
  refine HC.out.mono ?_
  rintro e w' ⟨rfl, hb⟩
  go_wp2_with fail
  go_ret2
  exact ⟨rfl, hb⟩
set_option maxHeartbeats 1000000 in
theorem aunrun_any (s : ByteArray) (n : Int) (w : World) (hs : s.size ≤ 4000000000) :
    Calls Try.prog 9 #[.string s, .int .i64 n] w (DecodedIs (unrunF s n) w) := by
  have hc : Calls Try.prog 17 #[.string s, .int .i64 n, .func (.func 25) #[] #[]] w (DecodedIs (unrunF s n) w) := by
    by_cases hn : n < 0
    · have hF : unrunF s n = (1, []) := by unfold unrunF; rw [if_pos hn]
      rw [hF]
      exact decoded_no _ s n w hn
    · have hF : unrunF s n = runD (min n 1048576).toNat [] s.data.toList := by unfold unrunF; rw [if_neg hn]
      rw [hF]
      exact decoded_in 25 s n _ w hs (by omega) (fun _ _ => by kernel_rfl) fun N W hN hD => unrun_in N (N + 1) none s.data.toList _ W hN (by omega) _ rfl hD
  have HC := Lib.hid hc
  clear hc
  obtain ⟨F, hF⟩ : ∃ F, unrunF s n = F := ⟨_, rfl⟩
  rw [hF] at HC ⊢
  clear hF
  go_enter Try.func9, Try.ntmps9
  go_wp2_with fail
  refine HC.out.mono ?_
  rintro e w' ⟨rfl, hb⟩
  go_wp2_with fail
  go_ret2
  exact ⟨rfl, hb⟩
end Go.Proofs.Ythioafndepkhoaa
