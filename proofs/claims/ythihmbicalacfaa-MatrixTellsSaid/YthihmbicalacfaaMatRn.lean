/-
  MatrixTells: the functions answer what the document's do.
-/
import Derived.Test.YthihmbicalacfaaMatRm
import Derived.Test.YthihmbicalacfaaMatRk
import Derived.Test.YthihmbicalacfaaMatLv
import Derived.Test.YthihmbicalacfaaMatRi
namespace Go.Proofs.Ythihmbicalacfaa
open Go.RowKit Fix Mat

section
variable {P : Program} {ops : Array Oper} {Q : Exit → Act → World → Prop} {md : Region.Mode} {S : World → Prop}
/-- A call that is ready, whatever it answers. -/
theorem call_ready {α : Type} {i : Nat} {o : Oper} {fuel : Nat} {listed : Array Bool} {a : Act} {w : World} (val : α → Value) (R : α → World → Prop) (hi : ops[i]? = some o) (hw : Region.wanted o (yielded ops a.tmps) = true)
    (hy : ∃ f args, (execOp a.eval o).run P w = .ok (.enter f args) w ∧ Calls P f args w (fun e w' => ∃ x, e = .returned (val x) ∧ R x w'))
    (hS : ∀ x w', R x w' → S w') (h : ∀ x w', R x w' → S w' → wpAnyH P md ops Q S fuel (listed.setIfInBounds i true) (a.put o.dst (val x)) w') :
    wpOp P ops Q i (fun a' w' => S w' ∧ wpAnyH P md ops Q S fuel (listed.setIfInBounds i true) a' w') a w := by
  unfold Go.wpOp
  simp only [hi]
  obtain ⟨f, args, hr, hc⟩ := hy
  simp only [hw, if_true, Oper.wp, hr, Oper.upon]
  refine .inl (hc.mono ?_)
  rintro e w' ⟨x, rfl, hR⟩
  exact ⟨hS x w' hR, h x w' hR (hS x w' hR)⟩
theorem wpAnyH_call {α : Type} {i d : Nat} {o : Oper} {fuel : Nat} {listed : Array Bool} {a : Act} {w : World} (val : α → Value) (R : α → World → Prop) (hr : Region.ready md ops listed = [i]) (hi : ops[i]? = some o) (hd : o.dst = some d) (hw : Region.wanted o (yielded ops a.tmps) = true)
    (hy : ∃ f args, (execOp a.eval o).run P w = .ok (.enter f args) w ∧ Calls P f args w (fun e w' => ∃ x, e = .returned (val x) ∧ R x w'))
    (hS : ∀ x w', R x w' → S w') (h : ∀ x w', R x w' → S w' → wpAnyH P md ops Q S fuel (listed.setIfInBounds i true) (a.put (some d) (val x)) w') :
    wpAnyH P md ops Q S (fuel + 1) listed a w :=
  wpAnyH_ready hr (by simp) (fun j hj => by
    have e : j = i := by simpa using hj
    subst e
    exact call_ready val R hi hw hy hS (by rw [hd]; exact h))
theorem wpAnyH_take' {i d : Nat} {oi : Oper} {v : Value} {fuel : Nat} {listed : Array Bool} {a : Act} {w : World} (hi : ops[i]? = some oi) (hd : oi.dst = some d)
    (hs : Region.noSelect ops = true) (hf : Region.free md ops listed i = true) (hr : (Region.ready md ops listed).contains i = true)
    (hQ : ∀ c a w, Q (.panic c) (a.put (some d) v) w → Q (.panic c) a w) (hy : YieldsIf P ops S oi v a) (hS : S w)
    (h : wpAnyH P md ops Q S fuel (listed.setIfInBounds i true) (a.put (some d) v) w) : wpAnyH P md ops Q S (fuel + 1) listed a w :=
  wpAnyH_take hi hs hf hr (by rw [hd]; exact hQ) hy hS (by rw [hd]; exact h)
theorem DetAll.call' {T i d : Nat} {oi : Oper} {v : Value} {fuel : Nat} {listed : Array Bool} {a : Act} (hi : ops[i]? = some oi) (hd : oi.dst = some d) (hs : Region.noSelect ops = true) (hT : waits md ops T i = true)
    (hf : Region.free md ops listed i = true) (hr : (Region.ready md ops listed).contains i = true) (hw : Region.wanted oi (yielded ops a.tmps) = true)
    (hy : ∀ w, S w → ∃ f args, (execOp a.eval oi).run P w = .ok (.enter f args) w ∧ Calls P f args w (fun e w' => e = .returned v ∧ S w'))
    (h : DetAll P md ops Q S T fuel (listed.setIfInBounds i true) (a.put (some d) v)) : DetAll P md ops Q S T (fuel + 1) listed a :=
  DetAll.call hi hs hT hf hr hw hy (by rw [hd]; exact h)
end

set_option maxRecDepth 100000 in
set_option maxHeartbeats 32000000 in
theorem tells_any (a b : Mx) (x y : Int) (r : Rc) (fu : Nat) (k n g : Int) (s : ByteArray) (ka oa : Option Addr) (kl kc ol oc : Nat) (w : World) (hk : KeysAt w ka kl) (hd : KidsAt fu w oa ol) :
    Calls Try.prog 3 #[mxV a, mxV b, ptV x y, rcV r, .agg #[.int .i64 k, .int .i64 n, .int .i64 g, .string s, .slice ka kl kc, .slice oa ol oc]] w fun e w' => e = .returned (.bool true) ∧ Below w.heap.size w w' := by
  unfold mxV ptV rcV
  obtain ⟨qr, xr, hread⟩ := read_both fu k n g s ka oa kl kc ol oc w hd
  have HRead := Lib.hid hread
  have HKK := Lib.hid (And.intro hk hd)
  clear hread hk hd
  obtain ⟨N, hN⟩ : ∃ N, w.heap.size = N := ⟨_, rfl⟩
  have HNw := Lib.hid hN
  obtain ⟨B, hB⟩ : ∃ B, N + 1 = B := ⟨_, rfl⟩
  obtain ⟨P, hP⟩ : ∃ P, B + 1 = P := ⟨_, rfl⟩
  obtain ⟨Rr, hR⟩ : ∃ R, P + 1 = R := ⟨_, rfl⟩
  obtain ⟨Oo, hO⟩ : ∃ R, Rr + 1 = R := ⟨_, rfl⟩
  obtain ⟨V0, hV0⟩ : ∃ V, w.alloc (.cells #[.int .i64 a.a, .int .i64 a.b, .int .i64 a.c, .int .i64 a.d, .int .i64 a.e, .int .i64 a.f] 23) = V := ⟨_, rfl⟩
  have hs0 : V0.heap.size = B := by rw [← hV0, World.size_alloc, hN, hB]
  obtain ⟨V1, hV1⟩ : ∃ V, V0.alloc (.cells #[.int .i64 b.a, .int .i64 b.b, .int .i64 b.c, .int .i64 b.d, .int .i64 b.e, .int .i64 b.f] 23) = V := ⟨_, rfl⟩
  have hs1 : V1.heap.size = P := by rw [← hV1, World.size_alloc, hs0, hP]
  obtain ⟨V2, hV2⟩ : ∃ V, V1.alloc (.cells #[.int .i64 x, .int .i64 y] 25) = V := ⟨_, rfl⟩
  have hs2 : V2.heap.size = Rr := by rw [← hV2, World.size_alloc, hs1, hR]
  obtain ⟨V3, hV3⟩ : ∃ V, V2.alloc (.cells #[.int .i64 r.x0, .int .i64 r.y0, .int .i64 r.x1, .int .i64 r.y1] 27) = V := ⟨_, rfl⟩
  have hs3 : V3.heap.size = Oo := by rw [← hV3, World.size_alloc, hs2, hO]
  obtain ⟨V4, hV4⟩ : ∃ V, V3.alloc (.cells #[.int .i64 k, .int .i64 n, .int .i64 g, .string s, .slice ka kl kc, .slice oa ol oc] 31) = V := ⟨_, rfl⟩
  have hs4 : V4.heap.size = Oo + 1 := by rw [← hV4, World.size_alloc, hs3]
  have La := Lib.hid (show Blk V4 N 23 #[.int .i64 a.a, .int .i64 a.b, .int .i64 a.c, .int .i64 a.d, .int .i64 a.e, .int .i64 a.f] by rw [← hV4, ← hV3, ← hV2, ← hV1, ← hV0, ← hN]; exact ((((Blk.new w _ _).alloc _).alloc _).alloc _).alloc _)
  have Lb := Lib.hid (show Blk V4 B 23 #[.int .i64 b.a, .int .i64 b.b, .int .i64 b.c, .int .i64 b.d, .int .i64 b.e, .int .i64 b.f] by rw [← hV4, ← hV3, ← hV2, ← hV1, ← hs0]; exact (((Blk.new V0 _ _).alloc _).alloc _).alloc _)
  have Lp := Lib.hid (show Blk V4 P 25 #[.int .i64 x, .int .i64 y] by rw [← hV4, ← hV3, ← hV2, ← hs1]; exact ((Blk.new V1 _ _).alloc _).alloc _)
  have Lr := Lib.hid (show Blk V4 Rr 27 #[.int .i64 r.x0, .int .i64 r.y0, .int .i64 r.x1, .int .i64 r.y1] by rw [← hV4, ← hV3, ← hs2]; exact (Blk.new V2 _ _).alloc _)
  have Lo := Lib.hid (show Blk V4 Oo 31 #[.int .i64 k, .int .i64 n, .int .i64 g, .string s, .slice ka kl kc, .slice oa ol oc] by rw [← hV4, ← hs3]; exact Blk.new V3 _ _)
  have HB := Lib.hid (show Below N w V4 by rw [← hV4, ← hV3, ← hV2, ← hV1, ← hV0, ← hN]; exact (((((Below.refl _ w).alloc (Nat.le_refl _) _).alloc (by simp) _).alloc (by simp; omega) _).alloc (by simp; omega) _).alloc (by simp; omega) _)
  have HS := Lib.hid (show N ≤ V4.heap.size by omega)
  rw [hN]
  go_enter Try.func3, Try.ntmps3
  go_upto_region 1 with fail
  clear hV0 hV1 hV2 hV3 hV4 hs0 hs1 hs2 hs3 hs4 hN hB hP hR hO
  obtain ⟨oc0, oc1, oc2, oc3, oc4, oc5⟩ := (six_cells Lo.out).1
  go_wp2_with fail
  refine ((size05 fu k n g s ka oa kl kc ol oc V4 (HKK.out.1.below HB.out (Nat.le_of_eq HNw.out)) (KidsAt.below HB.out (Nat.le_of_eq HNw.out) fu HKK.out.2))).mono ?_
  rintro e U1 ⟨sz, rfl, hb⟩
  have La := Lib.hid (La.out.below hb La.out.lt)
  have Lb := Lib.hid (Lb.out.below hb Lb.out.lt)
  have Lp := Lib.hid (Lp.out.below hb Lp.out.lt)
  have Lr := Lib.hid (Lr.out.below hb Lr.out.lt)
  have Lo := Lib.hid (Lo.out.below hb Lo.out.lt)
  have HB := Lib.hid (HB.out.trans (hb.mono HS.out))
  have HS := Lib.hid (Nat.le_trans HS.out hb.size)
  clear hb
  clear oc0 oc1 oc2 oc3 oc4 oc5
  by_cases hsz : 300 < sz
  · go_wp2_with fail
    refine (matLives U1).mono ?_
    rintro e w' ⟨rfl, hb⟩
    have HF := Lib.hid (HB.out.trans (hb.mono HS.out))
    clear hb
    go_wp2_with fail
    go_ret
    exact ⟨rfl, HF.out⟩
  obtain ⟨q, hq⟩ : ∃ q, mulQ a b = q := ⟨_, rfl⟩
  obtain ⟨e1, he1⟩ : ∃ q, mulX a b = q := ⟨_, rfl⟩
  obtain ⟨u, v, huv⟩ : ∃ u v, appP a x y = (u, v) := ⟨_, _, rfl⟩
  obtain ⟨e2, he2⟩ : ∃ q, appX a x y = q := ⟨_, rfl⟩
  obtain ⟨ln, e3, hln⟩ := LenIs_ex a x y
  obtain ⟨bq, hbq⟩ : ∃ q, boxQ a r = q := ⟨_, rfl⟩
  obtain ⟨e4, he4⟩ : ∃ q, boxX a r = q := ⟨_, rfl⟩
  have HM1 : Hid (∀ W, Calls Try.prog 11 #[.agg #[.int .i64 a.a, .int .i64 a.b, .int .i64 a.c, .int .i64 a.d, .int .i64 a.e, .int .i64 a.f], .agg #[.int .i64 b.a, .int .i64 b.b, .int .i64 b.c, .int .i64 b.d, .int .i64 b.e, .int .i64 b.f]] W fun e w' => e = .returned (.tuple #[.agg #[.int .i64 q.a, .int .i64 q.b, .int .i64 q.c, .int .i64 q.d, .int .i64 q.e, .int .i64 q.f], .int .i64 e1]) ∧ Below W.heap.size W w') := Lib.hid (fun W => mul_mx a b q e1 W hq he1)
  have HM2 : Hid (∀ W, Calls Try.prog 12 #[.agg #[.int .i64 a.a, .int .i64 a.b, .int .i64 a.c, .int .i64 a.d, .int .i64 a.e, .int .i64 a.f], .agg #[.int .i64 b.a, .int .i64 b.b, .int .i64 b.c, .int .i64 b.d, .int .i64 b.e, .int .i64 b.f]] W fun e w' => e = .returned (.tuple #[.agg #[.int .i64 q.a, .int .i64 q.b, .int .i64 q.c, .int .i64 q.d, .int .i64 q.e, .int .i64 q.f], .int .i64 e1]) ∧ Below W.heap.size W w') := Lib.hid (fun W => mul42 a b q e1 W hq he1)
  have HA1 : Hid (∀ W, Calls Try.prog 13 #[.agg #[.int .i64 a.a, .int .i64 a.b, .int .i64 a.c, .int .i64 a.d, .int .i64 a.e, .int .i64 a.f], .agg #[.int .i64 x, .int .i64 y]] W fun e w' => e = .returned (.tuple #[.agg #[.int .i64 u, .int .i64 v], .int .i64 e2]) ∧ Below W.heap.size W w') := Lib.hid (fun W => apply_pt a x y u v e2 W huv he2)
  have HA2 : Hid (∀ W, Calls Try.prog 14 #[.agg #[.int .i64 a.a, .int .i64 a.b, .int .i64 a.c, .int .i64 a.d, .int .i64 a.e, .int .i64 a.f], .agg #[.int .i64 x, .int .i64 y]] W fun e w' => e = .returned (.tuple #[.agg #[.int .i64 u, .int .i64 v], .int .i64 e2]) ∧ Below W.heap.size W w') := Lib.hid (fun W => app42 a x y u v e2 W huv he2)
  have HL1 : Hid (∀ W, Calls Try.prog 15 #[.agg #[.int .i64 a.a, .int .i64 a.b, .int .i64 a.c, .int .i64 a.d, .int .i64 a.e, .int .i64 a.f], .agg #[.int .i64 x, .int .i64 y]] W fun e w' => e = .returned (.tuple #[.int .i64 ln, .int .i64 e3]) ∧ Below W.heap.size W w') := Lib.hid (fun W => length_any a x y ln e3 W hln)
  have HL2 : Hid (∀ W, Calls Try.prog 16 #[.agg #[.int .i64 a.a, .int .i64 a.b, .int .i64 a.c, .int .i64 a.d, .int .i64 a.e, .int .i64 a.f], .agg #[.int .i64 x, .int .i64 y]] W fun e w' => e = .returned (.tuple #[.int .i64 ln, .int .i64 e3]) ∧ Below W.heap.size W w') := Lib.hid (fun W => length42 a x y ln e3 W hln)
  have HX1 : Hid (∀ W, Calls Try.prog 17 #[.agg #[.int .i64 a.a, .int .i64 a.b, .int .i64 a.c, .int .i64 a.d, .int .i64 a.e, .int .i64 a.f], .agg #[.int .i64 r.x0, .int .i64 r.y0, .int .i64 r.x1, .int .i64 r.y1]] W fun e w' => e = .returned (.tuple #[.agg #[.int .i64 bq.x0, .int .i64 bq.y0, .int .i64 bq.x1, .int .i64 bq.y1], .int .i64 e4]) ∧ Below W.heap.size W w') := Lib.hid (fun W => box_rc a r bq e4 W hbq he4)
  have HX2 : Hid (∀ W, Calls Try.prog 18 #[.agg #[.int .i64 a.a, .int .i64 a.b, .int .i64 a.c, .int .i64 a.d, .int .i64 a.e, .int .i64 a.f], .agg #[.int .i64 r.x0, .int .i64 r.y0, .int .i64 r.x1, .int .i64 r.y1]] W fun e w' => e = .returned (.tuple #[.agg #[.int .i64 bq.x0, .int .i64 bq.y0, .int .i64 bq.x1, .int .i64 bq.y1], .int .i64 e4]) ∧ Below W.heap.size W w') := Lib.hid (fun W => box42 a r bq e4 W hbq he4)
  clear hq he1 huv he2 hln hbq he4
  have HR1 : Hid (∀ W, Below N w W → Calls Try.prog 19 #[.agg #[.int .i64 k, .int .i64 n, .int .i64 g, .string s, .slice ka kl kc, .slice oa ol oc]] W fun e w' => e = .returned (.tuple #[.agg #[.int .i64 qr.a, .int .i64 qr.b, .int .i64 qr.c, .int .i64 qr.d, .int .i64 qr.e, .int .i64 qr.f], .int .i64 xr]) ∧ Below W.heap.size W w') := Lib.hid (fun W hb => (HRead.out W (by rw [HNw.out]; exact hb)).1)
  have HR2 : Hid (∀ W, Below N w W → Calls Try.prog 20 #[.agg #[.int .i64 k, .int .i64 n, .int .i64 g, .string s, .slice ka kl kc, .slice oa ol oc]] W fun e w' => e = .returned (.tuple #[.agg #[.int .i64 qr.a, .int .i64 qr.b, .int .i64 qr.c, .int .i64 qr.d, .int .i64 qr.e, .int .i64 qr.f], .int .i64 xr]) ∧ Below W.heap.size W w') := Lib.hid (fun W hb => (HRead.out W (by rw [HNw.out]; exact hb)).2)
  obtain ⟨ac0, ac1, ac2, ac3, ac4, ac5⟩ := (six_cells La.out).1
  obtain ⟨bc0, bc1, bc2, bc3, bc4, bc5⟩ := (six_cells Lb.out).1
  go_wp2_with fail
  refine (HM1.out U1).mono ?_
  rintro e U2 ⟨rfl, hb⟩
  have La := Lib.hid (La.out.below hb La.out.lt)
  have Lb := Lib.hid (Lb.out.below hb Lb.out.lt)
  have Lp := Lib.hid (Lp.out.below hb Lp.out.lt)
  have Lr := Lib.hid (Lr.out.below hb Lr.out.lt)
  have Lo := Lib.hid (Lo.out.below hb Lo.out.lt)
  have HB := Lib.hid (HB.out.trans (hb.mono HS.out))
  have HS := Lib.hid (Nat.le_trans HS.out hb.size)
  clear hb
  clear ac0 ac1 ac2 ac3 ac4 ac5 bc0 bc1 bc2 bc3 bc4 bc5
  obtain ⟨Gc, hG⟩ : ∃ G, U2.heap.size = G := ⟨_, rfl⟩
  go_upto_region 4 with fail
  obtain ⟨U3, hU⟩ : ∃ X, U2.alloc (.cells #[.int .i64 q.a, .int .i64 q.b, .int .i64 q.c, .int .i64 q.d, .int .i64 q.e, .int .i64 q.f] 23) = X := ⟨_, rfl⟩
  have La := Lib.hid (La.out.alloc (.cells #[.int .i64 q.a, .int .i64 q.b, .int .i64 q.c, .int .i64 q.d, .int .i64 q.e, .int .i64 q.f] 23))
  rw [hU] at La
  have Lb := Lib.hid (Lb.out.alloc (.cells #[.int .i64 q.a, .int .i64 q.b, .int .i64 q.c, .int .i64 q.d, .int .i64 q.e, .int .i64 q.f] 23))
  rw [hU] at Lb
  have Lp := Lib.hid (Lp.out.alloc (.cells #[.int .i64 q.a, .int .i64 q.b, .int .i64 q.c, .int .i64 q.d, .int .i64 q.e, .int .i64 q.f] 23))
  rw [hU] at Lp
  have Lr := Lib.hid (Lr.out.alloc (.cells #[.int .i64 q.a, .int .i64 q.b, .int .i64 q.c, .int .i64 q.d, .int .i64 q.e, .int .i64 q.f] 23))
  rw [hU] at Lr
  have Lo := Lib.hid (Lo.out.alloc (.cells #[.int .i64 q.a, .int .i64 q.b, .int .i64 q.c, .int .i64 q.d, .int .i64 q.e, .int .i64 q.f] 23))
  rw [hU] at Lo
  have Lc : Hid (Blk U3 Gc 23 #[.int .i64 q.a, .int .i64 q.b, .int .i64 q.c, .int .i64 q.d, .int .i64 q.e, .int .i64 q.f]) := Lib.hid (by rw [← hU, ← hG]; exact Blk.new U2 _ _)
  have HB := Lib.hid (HB.out.alloc HS.out (.cells #[.int .i64 q.a, .int .i64 q.b, .int .i64 q.c, .int .i64 q.d, .int .i64 q.e, .int .i64 q.f] 23))
  rw [hU] at HB
  have HS : Hid (N ≤ U3.heap.size) := Lib.hid (Nat.le_trans HS.out (by rw [← hU, World.size_alloc]; exact Nat.le_succ _))
  rw [hU]
  clear hU hG
  obtain ⟨ac0, ac1, ac2, ac3, ac4, ac5⟩ := (six_cells La.out).1
  obtain ⟨bc0, bc1, bc2, bc3, bc4, bc5⟩ := (six_cells Lb.out).1
  go_wp2_with fail
  refine (HM2.out U3).mono ?_
  rintro e U4 ⟨rfl, hb⟩
  have La := Lib.hid (La.out.below hb La.out.lt)
  have Lb := Lib.hid (Lb.out.below hb Lb.out.lt)
  have Lp := Lib.hid (Lp.out.below hb Lp.out.lt)
  have Lr := Lib.hid (Lr.out.below hb Lr.out.lt)
  have Lo := Lib.hid (Lo.out.below hb Lo.out.lt)
  have Lc := Lib.hid (Lc.out.below hb Lc.out.lt)
  have HB := Lib.hid (HB.out.trans (hb.mono HS.out))
  have HS := Lib.hid (Nat.le_trans HS.out hb.size)
  clear hb
  clear ac0 ac1 ac2 ac3 ac4 ac5 bc0 bc1 bc2 bc3 bc4 bc5
  obtain ⟨Gd, hG⟩ : ∃ G, U4.heap.size = G := ⟨_, rfl⟩
  go_upto_region 5 with fail
  obtain ⟨U5, hU⟩ : ∃ X, U4.alloc (.cells #[.int .i64 q.a, .int .i64 q.b, .int .i64 q.c, .int .i64 q.d, .int .i64 q.e, .int .i64 q.f] 23) = X := ⟨_, rfl⟩
  have La := Lib.hid (La.out.alloc (.cells #[.int .i64 q.a, .int .i64 q.b, .int .i64 q.c, .int .i64 q.d, .int .i64 q.e, .int .i64 q.f] 23))
  rw [hU] at La
  have Lb := Lib.hid (Lb.out.alloc (.cells #[.int .i64 q.a, .int .i64 q.b, .int .i64 q.c, .int .i64 q.d, .int .i64 q.e, .int .i64 q.f] 23))
  rw [hU] at Lb
  have Lp := Lib.hid (Lp.out.alloc (.cells #[.int .i64 q.a, .int .i64 q.b, .int .i64 q.c, .int .i64 q.d, .int .i64 q.e, .int .i64 q.f] 23))
  rw [hU] at Lp
  have Lr := Lib.hid (Lr.out.alloc (.cells #[.int .i64 q.a, .int .i64 q.b, .int .i64 q.c, .int .i64 q.d, .int .i64 q.e, .int .i64 q.f] 23))
  rw [hU] at Lr
  have Lo := Lib.hid (Lo.out.alloc (.cells #[.int .i64 q.a, .int .i64 q.b, .int .i64 q.c, .int .i64 q.d, .int .i64 q.e, .int .i64 q.f] 23))
  rw [hU] at Lo
  have Lc := Lib.hid (Lc.out.alloc (.cells #[.int .i64 q.a, .int .i64 q.b, .int .i64 q.c, .int .i64 q.d, .int .i64 q.e, .int .i64 q.f] 23))
  rw [hU] at Lc
  have Ld : Hid (Blk U5 Gd 23 #[.int .i64 q.a, .int .i64 q.b, .int .i64 q.c, .int .i64 q.d, .int .i64 q.e, .int .i64 q.f]) := Lib.hid (by rw [← hU, ← hG]; exact Blk.new U4 _ _)
  have HB := Lib.hid (HB.out.alloc HS.out (.cells #[.int .i64 q.a, .int .i64 q.b, .int .i64 q.c, .int .i64 q.d, .int .i64 q.e, .int .i64 q.f] 23))
  rw [hU] at HB
  have HS : Hid (N ≤ U5.heap.size) := Lib.hid (Nat.le_trans HS.out (by rw [← hU, World.size_alloc]; exact Nat.le_succ _))
  rw [hU]
  clear hU hG
  obtain ⟨ac0, ac1, ac2, ac3, ac4, ac5⟩ := (six_cells La.out).1
  obtain ⟨pc0, pc1⟩ := two_cells Lp.out
  go_wp2_with fail
  refine (HA1.out U5).mono ?_
  rintro e U6 ⟨rfl, hb⟩
  have La := Lib.hid (La.out.below hb La.out.lt)
  have Lb := Lib.hid (Lb.out.below hb Lb.out.lt)
  have Lp := Lib.hid (Lp.out.below hb Lp.out.lt)
  have Lr := Lib.hid (Lr.out.below hb Lr.out.lt)
  have Lo := Lib.hid (Lo.out.below hb Lo.out.lt)
  have Lc := Lib.hid (Lc.out.below hb Lc.out.lt)
  have Ld := Lib.hid (Ld.out.below hb Ld.out.lt)
  have HB := Lib.hid (HB.out.trans (hb.mono HS.out))
  have HS := Lib.hid (Nat.le_trans HS.out hb.size)
  clear hb
  clear ac0 ac1 ac2 ac3 ac4 ac5 pc0 pc1
  obtain ⟨Ge, hG⟩ : ∃ G, U6.heap.size = G := ⟨_, rfl⟩
  go_upto_region 6 with fail
  obtain ⟨U7, hU⟩ : ∃ X, U6.alloc (.cells #[.int .i64 u, .int .i64 v] 25) = X := ⟨_, rfl⟩
  have La := Lib.hid (La.out.alloc (.cells #[.int .i64 u, .int .i64 v] 25))
  rw [hU] at La
  have Lb := Lib.hid (Lb.out.alloc (.cells #[.int .i64 u, .int .i64 v] 25))
  rw [hU] at Lb
  have Lp := Lib.hid (Lp.out.alloc (.cells #[.int .i64 u, .int .i64 v] 25))
  rw [hU] at Lp
  have Lr := Lib.hid (Lr.out.alloc (.cells #[.int .i64 u, .int .i64 v] 25))
  rw [hU] at Lr
  have Lo := Lib.hid (Lo.out.alloc (.cells #[.int .i64 u, .int .i64 v] 25))
  rw [hU] at Lo
  have Lc := Lib.hid (Lc.out.alloc (.cells #[.int .i64 u, .int .i64 v] 25))
  rw [hU] at Lc
  have Ld := Lib.hid (Ld.out.alloc (.cells #[.int .i64 u, .int .i64 v] 25))
  rw [hU] at Ld
  have Le : Hid (Blk U7 Ge 25 #[.int .i64 u, .int .i64 v]) := Lib.hid (by rw [← hU, ← hG]; exact Blk.new U6 _ _)
  have HB := Lib.hid (HB.out.alloc HS.out (.cells #[.int .i64 u, .int .i64 v] 25))
  rw [hU] at HB
  have HS : Hid (N ≤ U7.heap.size) := Lib.hid (Nat.le_trans HS.out (by rw [← hU, World.size_alloc]; exact Nat.le_succ _))
  rw [hU]
  clear hU hG
  obtain ⟨ac0, ac1, ac2, ac3, ac4, ac5⟩ := (six_cells La.out).1
  obtain ⟨pc0, pc1⟩ := two_cells Lp.out
  go_wp2_with fail
  refine (HA2.out U7).mono ?_
  rintro e U8 ⟨rfl, hb⟩
  have La := Lib.hid (La.out.below hb La.out.lt)
  have Lb := Lib.hid (Lb.out.below hb Lb.out.lt)
  have Lp := Lib.hid (Lp.out.below hb Lp.out.lt)
  have Lr := Lib.hid (Lr.out.below hb Lr.out.lt)
  have Lo := Lib.hid (Lo.out.below hb Lo.out.lt)
  have Lc := Lib.hid (Lc.out.below hb Lc.out.lt)
  have Ld := Lib.hid (Ld.out.below hb Ld.out.lt)
  have Le := Lib.hid (Le.out.below hb Le.out.lt)
  have HB := Lib.hid (HB.out.trans (hb.mono HS.out))
  have HS := Lib.hid (Nat.le_trans HS.out hb.size)
  clear hb
  clear ac0 ac1 ac2 ac3 ac4 ac5 pc0 pc1
  obtain ⟨Gf, hG⟩ : ∃ G, U8.heap.size = G := ⟨_, rfl⟩
  go_upto_region 7 with fail
  obtain ⟨U9, hU⟩ : ∃ X, U8.alloc (.cells #[.int .i64 u, .int .i64 v] 25) = X := ⟨_, rfl⟩
  have La := Lib.hid (La.out.alloc (.cells #[.int .i64 u, .int .i64 v] 25))
  rw [hU] at La
  have Lb := Lib.hid (Lb.out.alloc (.cells #[.int .i64 u, .int .i64 v] 25))
  rw [hU] at Lb
  have Lp := Lib.hid (Lp.out.alloc (.cells #[.int .i64 u, .int .i64 v] 25))
  rw [hU] at Lp
  have Lr := Lib.hid (Lr.out.alloc (.cells #[.int .i64 u, .int .i64 v] 25))
  rw [hU] at Lr
  have Lo := Lib.hid (Lo.out.alloc (.cells #[.int .i64 u, .int .i64 v] 25))
  rw [hU] at Lo
  have Lc := Lib.hid (Lc.out.alloc (.cells #[.int .i64 u, .int .i64 v] 25))
  rw [hU] at Lc
  have Ld := Lib.hid (Ld.out.alloc (.cells #[.int .i64 u, .int .i64 v] 25))
  rw [hU] at Ld
  have Le := Lib.hid (Le.out.alloc (.cells #[.int .i64 u, .int .i64 v] 25))
  rw [hU] at Le
  have Lf : Hid (Blk U9 Gf 25 #[.int .i64 u, .int .i64 v]) := Lib.hid (by rw [← hU, ← hG]; exact Blk.new U8 _ _)
  have HB := Lib.hid (HB.out.alloc HS.out (.cells #[.int .i64 u, .int .i64 v] 25))
  rw [hU] at HB
  have HS : Hid (N ≤ U9.heap.size) := Lib.hid (Nat.le_trans HS.out (by rw [← hU, World.size_alloc]; exact Nat.le_succ _))
  rw [hU]
  clear hU hG
  obtain ⟨ac0, ac1, ac2, ac3, ac4, ac5⟩ := (six_cells La.out).1
  obtain ⟨pc0, pc1⟩ := two_cells Lp.out
  go_wp2_with fail
  refine (HL1.out U9).mono ?_
  rintro e U10 ⟨rfl, hb⟩
  have La := Lib.hid (La.out.below hb La.out.lt)
  have Lb := Lib.hid (Lb.out.below hb Lb.out.lt)
  have Lp := Lib.hid (Lp.out.below hb Lp.out.lt)
  have Lr := Lib.hid (Lr.out.below hb Lr.out.lt)
  have Lo := Lib.hid (Lo.out.below hb Lo.out.lt)
  have Lc := Lib.hid (Lc.out.below hb Lc.out.lt)
  have Ld := Lib.hid (Ld.out.below hb Ld.out.lt)
  have Le := Lib.hid (Le.out.below hb Le.out.lt)
  have Lf := Lib.hid (Lf.out.below hb Lf.out.lt)
  have HB := Lib.hid (HB.out.trans (hb.mono HS.out))
  have HS := Lib.hid (Nat.le_trans HS.out hb.size)
  clear hb
  clear ac0 ac1 ac2 ac3 ac4 ac5 pc0 pc1
  obtain ⟨ac0, ac1, ac2, ac3, ac4, ac5⟩ := (six_cells La.out).1
  obtain ⟨pc0, pc1⟩ := two_cells Lp.out
  go_wp2_with fail
  refine (HL2.out U10).mono ?_
  rintro e U11 ⟨rfl, hb⟩
  have La := Lib.hid (La.out.below hb La.out.lt)
  have Lb := Lib.hid (Lb.out.below hb Lb.out.lt)
  have Lp := Lib.hid (Lp.out.below hb Lp.out.lt)
  have Lr := Lib.hid (Lr.out.below hb Lr.out.lt)
  have Lo := Lib.hid (Lo.out.below hb Lo.out.lt)
  have Lc := Lib.hid (Lc.out.below hb Lc.out.lt)
  have Ld := Lib.hid (Ld.out.below hb Ld.out.lt)
  have Le := Lib.hid (Le.out.below hb Le.out.lt)
  have Lf := Lib.hid (Lf.out.below hb Lf.out.lt)
  have HB := Lib.hid (HB.out.trans (hb.mono HS.out))
  have HS := Lib.hid (Nat.le_trans HS.out hb.size)
  clear hb
  clear ac0 ac1 ac2 ac3 ac4 ac5 pc0 pc1
  obtain ⟨ac0, ac1, ac2, ac3, ac4, ac5⟩ := (six_cells La.out).1
  obtain ⟨rc0, rc1, rc2, rc3⟩ := (four_cells Lr.out).1
  go_wp2_with fail
  refine (HX1.out U11).mono ?_
  rintro e U12 ⟨rfl, hb⟩
  have La := Lib.hid (La.out.below hb La.out.lt)
  have Lb := Lib.hid (Lb.out.below hb Lb.out.lt)
  have Lp := Lib.hid (Lp.out.below hb Lp.out.lt)
  have Lr := Lib.hid (Lr.out.below hb Lr.out.lt)
  have Lo := Lib.hid (Lo.out.below hb Lo.out.lt)
  have Lc := Lib.hid (Lc.out.below hb Lc.out.lt)
  have Ld := Lib.hid (Ld.out.below hb Ld.out.lt)
  have Le := Lib.hid (Le.out.below hb Le.out.lt)
  have Lf := Lib.hid (Lf.out.below hb Lf.out.lt)
  have HB := Lib.hid (HB.out.trans (hb.mono HS.out))
  have HS := Lib.hid (Nat.le_trans HS.out hb.size)
  clear hb
  clear ac0 ac1 ac2 ac3 ac4 ac5 rc0 rc1 rc2 rc3
  obtain ⟨Gi, hG⟩ : ∃ G, U12.heap.size = G := ⟨_, rfl⟩
  go_upto_region 10 with fail
  obtain ⟨U13, hU⟩ : ∃ X, U12.alloc (.cells #[.int .i64 bq.x0, .int .i64 bq.y0, .int .i64 bq.x1, .int .i64 bq.y1] 27) = X := ⟨_, rfl⟩
  have La := Lib.hid (La.out.alloc (.cells #[.int .i64 bq.x0, .int .i64 bq.y0, .int .i64 bq.x1, .int .i64 bq.y1] 27))
  rw [hU] at La
  have Lb := Lib.hid (Lb.out.alloc (.cells #[.int .i64 bq.x0, .int .i64 bq.y0, .int .i64 bq.x1, .int .i64 bq.y1] 27))
  rw [hU] at Lb
  have Lp := Lib.hid (Lp.out.alloc (.cells #[.int .i64 bq.x0, .int .i64 bq.y0, .int .i64 bq.x1, .int .i64 bq.y1] 27))
  rw [hU] at Lp
  have Lr := Lib.hid (Lr.out.alloc (.cells #[.int .i64 bq.x0, .int .i64 bq.y0, .int .i64 bq.x1, .int .i64 bq.y1] 27))
  rw [hU] at Lr
  have Lo := Lib.hid (Lo.out.alloc (.cells #[.int .i64 bq.x0, .int .i64 bq.y0, .int .i64 bq.x1, .int .i64 bq.y1] 27))
  rw [hU] at Lo
  have Lc := Lib.hid (Lc.out.alloc (.cells #[.int .i64 bq.x0, .int .i64 bq.y0, .int .i64 bq.x1, .int .i64 bq.y1] 27))
  rw [hU] at Lc
  have Ld := Lib.hid (Ld.out.alloc (.cells #[.int .i64 bq.x0, .int .i64 bq.y0, .int .i64 bq.x1, .int .i64 bq.y1] 27))
  rw [hU] at Ld
  have Le := Lib.hid (Le.out.alloc (.cells #[.int .i64 bq.x0, .int .i64 bq.y0, .int .i64 bq.x1, .int .i64 bq.y1] 27))
  rw [hU] at Le
  have Lf := Lib.hid (Lf.out.alloc (.cells #[.int .i64 bq.x0, .int .i64 bq.y0, .int .i64 bq.x1, .int .i64 bq.y1] 27))
  rw [hU] at Lf
  have Li : Hid (Blk U13 Gi 27 #[.int .i64 bq.x0, .int .i64 bq.y0, .int .i64 bq.x1, .int .i64 bq.y1]) := Lib.hid (by rw [← hU, ← hG]; exact Blk.new U12 _ _)
  have HB := Lib.hid (HB.out.alloc HS.out (.cells #[.int .i64 bq.x0, .int .i64 bq.y0, .int .i64 bq.x1, .int .i64 bq.y1] 27))
  rw [hU] at HB
  have HS : Hid (N ≤ U13.heap.size) := Lib.hid (Nat.le_trans HS.out (by rw [← hU, World.size_alloc]; exact Nat.le_succ _))
  rw [hU]
  clear hU hG
  obtain ⟨ac0, ac1, ac2, ac3, ac4, ac5⟩ := (six_cells La.out).1
  obtain ⟨rc0, rc1, rc2, rc3⟩ := (four_cells Lr.out).1
  go_wp2_with fail
  refine (HX2.out U13).mono ?_
  rintro e U14 ⟨rfl, hb⟩
  have La := Lib.hid (La.out.below hb La.out.lt)
  have Lb := Lib.hid (Lb.out.below hb Lb.out.lt)
  have Lp := Lib.hid (Lp.out.below hb Lp.out.lt)
  have Lr := Lib.hid (Lr.out.below hb Lr.out.lt)
  have Lo := Lib.hid (Lo.out.below hb Lo.out.lt)
  have Lc := Lib.hid (Lc.out.below hb Lc.out.lt)
  have Ld := Lib.hid (Ld.out.below hb Ld.out.lt)
  have Le := Lib.hid (Le.out.below hb Le.out.lt)
  have Lf := Lib.hid (Lf.out.below hb Lf.out.lt)
  have Li := Lib.hid (Li.out.below hb Li.out.lt)
  have HB := Lib.hid (HB.out.trans (hb.mono HS.out))
  have HS := Lib.hid (Nat.le_trans HS.out hb.size)
  clear hb
  clear ac0 ac1 ac2 ac3 ac4 ac5 rc0 rc1 rc2 rc3
  obtain ⟨Gj, hG⟩ : ∃ G, U14.heap.size = G := ⟨_, rfl⟩
  go_upto_region 11 with fail
  obtain ⟨U15, hU⟩ : ∃ X, U14.alloc (.cells #[.int .i64 bq.x0, .int .i64 bq.y0, .int .i64 bq.x1, .int .i64 bq.y1] 27) = X := ⟨_, rfl⟩
  have La := Lib.hid (La.out.alloc (.cells #[.int .i64 bq.x0, .int .i64 bq.y0, .int .i64 bq.x1, .int .i64 bq.y1] 27))
  rw [hU] at La
  have Lb := Lib.hid (Lb.out.alloc (.cells #[.int .i64 bq.x0, .int .i64 bq.y0, .int .i64 bq.x1, .int .i64 bq.y1] 27))
  rw [hU] at Lb
  have Lp := Lib.hid (Lp.out.alloc (.cells #[.int .i64 bq.x0, .int .i64 bq.y0, .int .i64 bq.x1, .int .i64 bq.y1] 27))
  rw [hU] at Lp
  have Lr := Lib.hid (Lr.out.alloc (.cells #[.int .i64 bq.x0, .int .i64 bq.y0, .int .i64 bq.x1, .int .i64 bq.y1] 27))
  rw [hU] at Lr
  have Lo := Lib.hid (Lo.out.alloc (.cells #[.int .i64 bq.x0, .int .i64 bq.y0, .int .i64 bq.x1, .int .i64 bq.y1] 27))
  rw [hU] at Lo
  have Lc := Lib.hid (Lc.out.alloc (.cells #[.int .i64 bq.x0, .int .i64 bq.y0, .int .i64 bq.x1, .int .i64 bq.y1] 27))
  rw [hU] at Lc
  have Ld := Lib.hid (Ld.out.alloc (.cells #[.int .i64 bq.x0, .int .i64 bq.y0, .int .i64 bq.x1, .int .i64 bq.y1] 27))
  rw [hU] at Ld
  have Le := Lib.hid (Le.out.alloc (.cells #[.int .i64 bq.x0, .int .i64 bq.y0, .int .i64 bq.x1, .int .i64 bq.y1] 27))
  rw [hU] at Le
  have Lf := Lib.hid (Lf.out.alloc (.cells #[.int .i64 bq.x0, .int .i64 bq.y0, .int .i64 bq.x1, .int .i64 bq.y1] 27))
  rw [hU] at Lf
  have Li := Lib.hid (Li.out.alloc (.cells #[.int .i64 bq.x0, .int .i64 bq.y0, .int .i64 bq.x1, .int .i64 bq.y1] 27))
  rw [hU] at Li
  have Lj : Hid (Blk U15 Gj 27 #[.int .i64 bq.x0, .int .i64 bq.y0, .int .i64 bq.x1, .int .i64 bq.y1]) := Lib.hid (by rw [← hU, ← hG]; exact Blk.new U14 _ _)
  have HB := Lib.hid (HB.out.alloc HS.out (.cells #[.int .i64 bq.x0, .int .i64 bq.y0, .int .i64 bq.x1, .int .i64 bq.y1] 27))
  rw [hU] at HB
  have HS : Hid (N ≤ U15.heap.size) := Lib.hid (Nat.le_trans HS.out (by rw [← hU, World.size_alloc]; exact Nat.le_succ _))
  rw [hU]
  clear hU hG
  obtain ⟨oc0, oc1, oc2, oc3, oc4, oc5⟩ := (six_cells Lo.out).1
  go_wp2_with fail
  refine (HR1.out U15 HB.out).mono ?_
  rintro e U16 ⟨rfl, hb⟩
  have La := Lib.hid (La.out.below hb La.out.lt)
  have Lb := Lib.hid (Lb.out.below hb Lb.out.lt)
  have Lp := Lib.hid (Lp.out.below hb Lp.out.lt)
  have Lr := Lib.hid (Lr.out.below hb Lr.out.lt)
  have Lo := Lib.hid (Lo.out.below hb Lo.out.lt)
  have Lc := Lib.hid (Lc.out.below hb Lc.out.lt)
  have Ld := Lib.hid (Ld.out.below hb Ld.out.lt)
  have Le := Lib.hid (Le.out.below hb Le.out.lt)
  have Lf := Lib.hid (Lf.out.below hb Lf.out.lt)
  have Li := Lib.hid (Li.out.below hb Li.out.lt)
  have Lj := Lib.hid (Lj.out.below hb Lj.out.lt)
  have HB := Lib.hid (HB.out.trans (hb.mono HS.out))
  have HS := Lib.hid (Nat.le_trans HS.out hb.size)
  clear hb
  clear oc0 oc1 oc2 oc3 oc4 oc5
  obtain ⟨Gk, hG⟩ : ∃ G, U16.heap.size = G := ⟨_, rfl⟩
  go_upto_region 12 with fail
  obtain ⟨U17, hU⟩ : ∃ X, U16.alloc (.cells #[.int .i64 qr.a, .int .i64 qr.b, .int .i64 qr.c, .int .i64 qr.d, .int .i64 qr.e, .int .i64 qr.f] 23) = X := ⟨_, rfl⟩
  have La := Lib.hid (La.out.alloc (.cells #[.int .i64 qr.a, .int .i64 qr.b, .int .i64 qr.c, .int .i64 qr.d, .int .i64 qr.e, .int .i64 qr.f] 23))
  rw [hU] at La
  have Lb := Lib.hid (Lb.out.alloc (.cells #[.int .i64 qr.a, .int .i64 qr.b, .int .i64 qr.c, .int .i64 qr.d, .int .i64 qr.e, .int .i64 qr.f] 23))
  rw [hU] at Lb
  have Lp := Lib.hid (Lp.out.alloc (.cells #[.int .i64 qr.a, .int .i64 qr.b, .int .i64 qr.c, .int .i64 qr.d, .int .i64 qr.e, .int .i64 qr.f] 23))
  rw [hU] at Lp
  have Lr := Lib.hid (Lr.out.alloc (.cells #[.int .i64 qr.a, .int .i64 qr.b, .int .i64 qr.c, .int .i64 qr.d, .int .i64 qr.e, .int .i64 qr.f] 23))
  rw [hU] at Lr
  have Lo := Lib.hid (Lo.out.alloc (.cells #[.int .i64 qr.a, .int .i64 qr.b, .int .i64 qr.c, .int .i64 qr.d, .int .i64 qr.e, .int .i64 qr.f] 23))
  rw [hU] at Lo
  have Lc := Lib.hid (Lc.out.alloc (.cells #[.int .i64 qr.a, .int .i64 qr.b, .int .i64 qr.c, .int .i64 qr.d, .int .i64 qr.e, .int .i64 qr.f] 23))
  rw [hU] at Lc
  have Ld := Lib.hid (Ld.out.alloc (.cells #[.int .i64 qr.a, .int .i64 qr.b, .int .i64 qr.c, .int .i64 qr.d, .int .i64 qr.e, .int .i64 qr.f] 23))
  rw [hU] at Ld
  have Le := Lib.hid (Le.out.alloc (.cells #[.int .i64 qr.a, .int .i64 qr.b, .int .i64 qr.c, .int .i64 qr.d, .int .i64 qr.e, .int .i64 qr.f] 23))
  rw [hU] at Le
  have Lf := Lib.hid (Lf.out.alloc (.cells #[.int .i64 qr.a, .int .i64 qr.b, .int .i64 qr.c, .int .i64 qr.d, .int .i64 qr.e, .int .i64 qr.f] 23))
  rw [hU] at Lf
  have Li := Lib.hid (Li.out.alloc (.cells #[.int .i64 qr.a, .int .i64 qr.b, .int .i64 qr.c, .int .i64 qr.d, .int .i64 qr.e, .int .i64 qr.f] 23))
  rw [hU] at Li
  have Lj := Lib.hid (Lj.out.alloc (.cells #[.int .i64 qr.a, .int .i64 qr.b, .int .i64 qr.c, .int .i64 qr.d, .int .i64 qr.e, .int .i64 qr.f] 23))
  rw [hU] at Lj
  have Lk : Hid (Blk U17 Gk 23 #[.int .i64 qr.a, .int .i64 qr.b, .int .i64 qr.c, .int .i64 qr.d, .int .i64 qr.e, .int .i64 qr.f]) := Lib.hid (by rw [← hU, ← hG]; exact Blk.new U16 _ _)
  have HB := Lib.hid (HB.out.alloc HS.out (.cells #[.int .i64 qr.a, .int .i64 qr.b, .int .i64 qr.c, .int .i64 qr.d, .int .i64 qr.e, .int .i64 qr.f] 23))
  rw [hU] at HB
  have HS : Hid (N ≤ U17.heap.size) := Lib.hid (Nat.le_trans HS.out (by rw [← hU, World.size_alloc]; exact Nat.le_succ _))
  rw [hU]
  clear hU hG
  obtain ⟨oc0, oc1, oc2, oc3, oc4, oc5⟩ := (six_cells Lo.out).1
  go_wp2_with fail
  refine (HR2.out U17 HB.out).mono ?_
  rintro e U18 ⟨rfl, hb⟩
  have La := Lib.hid (La.out.below hb La.out.lt)
  have Lb := Lib.hid (Lb.out.below hb Lb.out.lt)
  have Lp := Lib.hid (Lp.out.below hb Lp.out.lt)
  have Lr := Lib.hid (Lr.out.below hb Lr.out.lt)
  have Lo := Lib.hid (Lo.out.below hb Lo.out.lt)
  have Lc := Lib.hid (Lc.out.below hb Lc.out.lt)
  have Ld := Lib.hid (Ld.out.below hb Ld.out.lt)
  have Le := Lib.hid (Le.out.below hb Le.out.lt)
  have Lf := Lib.hid (Lf.out.below hb Lf.out.lt)
  have Li := Lib.hid (Li.out.below hb Li.out.lt)
  have Lj := Lib.hid (Lj.out.below hb Lj.out.lt)
  have Lk := Lib.hid (Lk.out.below hb Lk.out.lt)
  have HB := Lib.hid (HB.out.trans (hb.mono HS.out))
  have HS := Lib.hid (Nat.le_trans HS.out hb.size)
  clear hb
  clear oc0 oc1 oc2 oc3 oc4 oc5
  obtain ⟨Gl, hG⟩ : ∃ G, U18.heap.size = G := ⟨_, rfl⟩
  go_upto_region 13 with fail
  obtain ⟨U19, hU⟩ : ∃ X, U18.alloc (.cells #[.int .i64 qr.a, .int .i64 qr.b, .int .i64 qr.c, .int .i64 qr.d, .int .i64 qr.e, .int .i64 qr.f] 23) = X := ⟨_, rfl⟩
  have La := Lib.hid (La.out.alloc (.cells #[.int .i64 qr.a, .int .i64 qr.b, .int .i64 qr.c, .int .i64 qr.d, .int .i64 qr.e, .int .i64 qr.f] 23))
  rw [hU] at La
  have Lb := Lib.hid (Lb.out.alloc (.cells #[.int .i64 qr.a, .int .i64 qr.b, .int .i64 qr.c, .int .i64 qr.d, .int .i64 qr.e, .int .i64 qr.f] 23))
  rw [hU] at Lb
  have Lp := Lib.hid (Lp.out.alloc (.cells #[.int .i64 qr.a, .int .i64 qr.b, .int .i64 qr.c, .int .i64 qr.d, .int .i64 qr.e, .int .i64 qr.f] 23))
  rw [hU] at Lp
  have Lr := Lib.hid (Lr.out.alloc (.cells #[.int .i64 qr.a, .int .i64 qr.b, .int .i64 qr.c, .int .i64 qr.d, .int .i64 qr.e, .int .i64 qr.f] 23))
  rw [hU] at Lr
  have Lo := Lib.hid (Lo.out.alloc (.cells #[.int .i64 qr.a, .int .i64 qr.b, .int .i64 qr.c, .int .i64 qr.d, .int .i64 qr.e, .int .i64 qr.f] 23))
  rw [hU] at Lo
  have Lc := Lib.hid (Lc.out.alloc (.cells #[.int .i64 qr.a, .int .i64 qr.b, .int .i64 qr.c, .int .i64 qr.d, .int .i64 qr.e, .int .i64 qr.f] 23))
  rw [hU] at Lc
  have Ld := Lib.hid (Ld.out.alloc (.cells #[.int .i64 qr.a, .int .i64 qr.b, .int .i64 qr.c, .int .i64 qr.d, .int .i64 qr.e, .int .i64 qr.f] 23))
  rw [hU] at Ld
  have Le := Lib.hid (Le.out.alloc (.cells #[.int .i64 qr.a, .int .i64 qr.b, .int .i64 qr.c, .int .i64 qr.d, .int .i64 qr.e, .int .i64 qr.f] 23))
  rw [hU] at Le
  have Lf := Lib.hid (Lf.out.alloc (.cells #[.int .i64 qr.a, .int .i64 qr.b, .int .i64 qr.c, .int .i64 qr.d, .int .i64 qr.e, .int .i64 qr.f] 23))
  rw [hU] at Lf
  have Li := Lib.hid (Li.out.alloc (.cells #[.int .i64 qr.a, .int .i64 qr.b, .int .i64 qr.c, .int .i64 qr.d, .int .i64 qr.e, .int .i64 qr.f] 23))
  rw [hU] at Li
  have Lj := Lib.hid (Lj.out.alloc (.cells #[.int .i64 qr.a, .int .i64 qr.b, .int .i64 qr.c, .int .i64 qr.d, .int .i64 qr.e, .int .i64 qr.f] 23))
  rw [hU] at Lj
  have Lk := Lib.hid (Lk.out.alloc (.cells #[.int .i64 qr.a, .int .i64 qr.b, .int .i64 qr.c, .int .i64 qr.d, .int .i64 qr.e, .int .i64 qr.f] 23))
  rw [hU] at Lk
  have Ll : Hid (Blk U19 Gl 23 #[.int .i64 qr.a, .int .i64 qr.b, .int .i64 qr.c, .int .i64 qr.d, .int .i64 qr.e, .int .i64 qr.f]) := Lib.hid (by rw [← hU, ← hG]; exact Blk.new U18 _ _)
  have HB := Lib.hid (HB.out.alloc HS.out (.cells #[.int .i64 qr.a, .int .i64 qr.b, .int .i64 qr.c, .int .i64 qr.d, .int .i64 qr.e, .int .i64 qr.f] 23))
  rw [hU] at HB
  have HS : Hid (N ≤ U19.heap.size) := Lib.hid (Nat.le_trans HS.out (by rw [← hU, World.size_alloc]; exact Nat.le_succ _))
  rw [hU]
  clear hU hG
  obtain ⟨cc0, cc1, cc2, cc3, cc4, cc5⟩ := (six_cells Lc.out).1
  obtain ⟨dc0, dc1, dc2, dc3, dc4, dc5⟩ := (six_cells Ld.out).1
  obtain ⟨ec0, ec1⟩ := two_cells Le.out
  obtain ⟨fc0, fc1⟩ := two_cells Lf.out
  obtain ⟨ic0, ic1, ic2, ic3⟩ := (four_cells Li.out).1
  obtain ⟨jc0, jc1, jc2, jc3⟩ := (four_cells Lj.out).1
  obtain ⟨kc0, kc1, kc2, kc3, kc4, kc5⟩ := (six_cells Lk.out).1
  obtain ⟨lc0, lc1, lc2, lc3, lc4, lc5⟩ := (six_cells Ll.out).1
  go_upto_region 15 with fail
  clear cc0 cc1 cc2 cc3 cc4 cc5 dc0 dc1 dc2 dc3 dc4 dc5 ec0 ec1 fc0 fc1 ic0 ic1 ic2 ic3 jc0 jc1 jc2 jc3 kc0 kc1 kc2 kc3 kc4 kc5 lc0 lc1 lc2 lc3 lc4 lc5
  clear Lb Lc Ld Le Lf Li Lj Lk Ll Lr Lo HM1 HM2 HA1 HA2 HL1 HL2 HX1 HX2 HR1 HR2 HRead HKK
  obtain ⟨kx, hkx⟩ : ∃ q, chkM a = q := ⟨_, rfl⟩
  have HO1 : Hid (∀ W, Calls Try.prog 21 #[] W fun e w' => e = .returned (.agg #[.int .i64 10000, .int .i64 0, .int .i64 0, .int .i64 10000, .int .i64 0, .int .i64 0]) ∧ Below W.heap.size W w') := Lib.hid (fun W => one_any W)
  have HO2 : Hid (∀ W, Calls Try.prog 22 #[] W fun e w' => e = .returned (.agg #[.int .i64 10000, .int .i64 0, .int .i64 0, .int .i64 10000, .int .i64 0, .int .i64 0]) ∧ Below W.heap.size W w') := Lib.hid (fun W => one42 W)
  have HC1 : Hid (∀ W, Calls Try.prog 23 #[.agg #[.int .i64 a.a, .int .i64 a.b, .int .i64 a.c, .int .i64 a.d, .int .i64 a.e, .int .i64 a.f]] W fun e w' => e = .returned (.int .i64 kx) ∧ Below W.heap.size W w') := Lib.hid (fun W => by have h := check_any a W; rw [hkx] at h; exact h)
  have HC2 : Hid (∀ W, Calls Try.prog 24 #[.agg #[.int .i64 a.a, .int .i64 a.b, .int .i64 a.c, .int .i64 a.d, .int .i64 a.e, .int .i64 a.f]] W fun e w' => e = .returned (.int .i64 kx) ∧ Below W.heap.size W w') := Lib.hid (fun W => by have h := check42 a W; rw [hkx] at h; exact h)
  have HV1 : Hid (∀ W, Calls Try.prog 25 #[.int .i64 x, .int .i64 y] W fun e w' => e = .returned (.agg #[.int .i64 10000, .int .i64 0, .int .i64 0, .int .i64 10000, .int .i64 x, .int .i64 y]) ∧ Below W.heap.size W w') := Lib.hid (fun W => move_any x y W)
  have HV2 : Hid (∀ W, Calls Try.prog 26 #[.int .i64 x, .int .i64 y] W fun e w' => e = .returned (.agg #[.int .i64 10000, .int .i64 0, .int .i64 0, .int .i64 10000, .int .i64 x, .int .i64 y]) ∧ Below W.heap.size W w') := Lib.hid (fun W => move42 x y W)
  have HW1 : Hid (∀ W, Calls Try.prog 27 #[.int .i64 x, .int .i64 y] W fun e w' => e = .returned (.agg #[.int .i64 x, .int .i64 0, .int .i64 0, .int .i64 y, .int .i64 0, .int .i64 0]) ∧ Below W.heap.size W w') := Lib.hid (fun W => scale_any x y W)
  have HW2 : Hid (∀ W, Calls Try.prog 28 #[.int .i64 x, .int .i64 y] W fun e w' => e = .returned (.agg #[.int .i64 x, .int .i64 0, .int .i64 0, .int .i64 y, .int .i64 0, .int .i64 0]) ∧ Below W.heap.size W w') := Lib.hid (fun W => scale42 x y W)
  obtain ⟨lw, hlw⟩ : ∃ l, objW a 6 = l := ⟨_, rfl⟩
  have HLen := Lib.hid (show lw.length = 6 by rw [← hlw]; exact objW_len a 6)
  have HJ1 : Hid (∀ W, Calls Try.prog 30 #[.agg #[.int .i64 a.a, .int .i64 a.b, .int .i64 a.c, .int .i64 a.d, .int .i64 a.e, .int .i64 a.f]] W fun e w' => ∃ x : Nat × Nat, e = .returned (.agg #[.int .i64 6, .int .i64 0, .int .i64 0, .string ⟨#[]⟩, .slice none 0 0, .slice (some ⟨x.1, 0, none⟩) 6 x.2]) ∧ ORow w' x.1 lw ∧ Below W.heap.size W w') := Lib.hid (fun W => by have h := object_gen a W; rw [hlw] at h; exact h.mono (fun e w' ⟨g, c, h1, h2, _, h4⟩ => ⟨(g, c), h1, h2, h4⟩))
  have HJ2 : Hid (∀ W, Calls Try.prog 31 #[.agg #[.int .i64 a.a, .int .i64 a.b, .int .i64 a.c, .int .i64 a.d, .int .i64 a.e, .int .i64 a.f]] W fun e w' => ∃ x : Nat × Nat, e = .returned (.agg #[.int .i64 6, .int .i64 0, .int .i64 0, .string ⟨#[]⟩, .slice none 0 0, .slice (some ⟨x.1, 0, none⟩) 6 x.2]) ∧ ORow w' x.1 lw ∧ Below W.heap.size W w') := Lib.hid (fun W => by have h := object42 a W; rw [hlw] at h; exact h.mono (fun e w' ⟨g, c, h1, h2, _, h4⟩ => ⟨(g, c), h1, h2, h4⟩))
  clear hkx hlw
  obtain ⟨Z, hZ⟩ : ∃ Z, U19.heap.size = Z := ⟨_, rfl⟩
  have HKa : Hid (∀ W, Below Z U19 W → (W.cell? ⟨N, 0, none⟩ = some (.int .i64 a.a) ∧ W.cell? ⟨N, 1, none⟩ = some (.int .i64 a.b) ∧ W.cell? ⟨N, 2, none⟩ = some (.int .i64 a.c) ∧ W.cell? ⟨N, 3, none⟩ = some (.int .i64 a.d) ∧ W.cell? ⟨N, 4, none⟩ = some (.int .i64 a.e) ∧ W.cell? ⟨N, 5, none⟩ = some (.int .i64 a.f))) := Lib.hid (fun W h => (six_cells (La.out.below h (by rw [← hZ]; exact La.out.lt))).1)
  have HKp : Hid (∀ W, Below Z U19 W → (W.cell? ⟨P, 0, none⟩ = some (.int .i64 x) ∧ W.cell? ⟨P, 1, none⟩ = some (.int .i64 y))) := Lib.hid (fun W h => two_cells (Lp.out.below h (by rw [← hZ]; exact Lp.out.lt)))
  have HStep : Hid (∀ W W', Below Z U19 W → Below W.heap.size W W' → Below Z U19 W') := Lib.hid (fun W W' h h' => h.trans (h'.mono (by rw [← hZ]; exact h.size)))
  have HEnd : Hid (∀ W, Below Z U19 W → Below N w W) := Lib.hid (fun W h => HB.out.trans (h.mono (by rw [← hZ]; exact HS.out)))
  clear hZ La Lp HB HS
  refine wp_region_held_drew (S := fun W => Below Z U19 W) (by kernel_rfl) ((Below.refl _ U19).drew) (fun hHeld => ?_)
  obtain ⟨V, hV⟩ : ∃ V, U19.drew = V := ⟨_, rfl⟩
  rw [hV] at hHeld
  rw [hV]
  clear hV
  refine wpAnyH_norm (l' := #[false, false, false, false, false, false, false, false, false, false, false, false, false, false, false, false, false, false, false, false, false, false, false, false, false, false, false, false, false, false, false, false, false, false, false, false, false, false, false, false, false, false, false, false, false, false, false]) (f' := 47) (by kernel_rfl) (by kernel_rfl) ?_
  refine DetAll.run (T := 2) _ _ _ ?_ _ hHeld
  clear hHeld
  refine DetAll.call' (i := 0) (d := 141) (v := .agg #[.int .i64 10000, .int .i64 0, .int .i64 0, .int .i64 10000, .int .i64 0, .int .i64 0]) rfl (by kernel_rfl) (by kernel_rfl) (by kernel_rfl) (by kernel_rfl) (by kernel_rfl) (by kernel_rfl) ?cy1 ?cr1
  case cy1 => exact fun W hSw => ⟨21, #[], by kernel_rfl, (HO1.out W).mono (fun e w' h => ⟨h.1, HStep.out W w' hSw h.2⟩)⟩
  case' cr1 =>
    try simp only [Act.put, List.setIfInBounds_toArray, List.set_cons_zero, List.set_cons_succ]
  refine DetAll.call' (i := 1) (d := 142) (v := .agg #[.int .i64 10000, .int .i64 0, .int .i64 0, .int .i64 10000, .int .i64 0, .int .i64 0]) rfl (by kernel_rfl) (by kernel_rfl) (by kernel_rfl) (by kernel_rfl) (by kernel_rfl) (by kernel_rfl) ?cy2 ?cr2
  case cy2 => exact fun W hSw => ⟨22, #[], by kernel_rfl, (HO2.out W).mono (fun e w' h => ⟨h.1, HStep.out W w' hSw h.2⟩)⟩
  case' cr2 =>
    try simp only [Act.put, List.setIfInBounds_toArray, List.set_cons_zero, List.set_cons_succ]
  refine DetAll.leaf (by kernel_rfl) (fun W hHeld => ?_)
  refine wpAnyH_take' (i := 2) (d := 143) (v := ?v3) rfl (by kernel_rfl) (by kernel_rfl) (by kernel_rfl) (by kernel_rfl) (fun _ _ _ h => h) (Or.inl ⟨by kernel_rfl, ?hy3⟩) hHeld ?rest3
  case hy3 => (intro w hSw; go_simp; first | done | with_reducible rfl)
  case' rest3 =>
    try simp only [Act.put, List.setIfInBounds_toArray, List.set_cons_zero, List.set_cons_succ]
  refine wpAnyH_take' (i := 3) (d := 144) (v := ?v4) rfl (by kernel_rfl) (by kernel_rfl) (by kernel_rfl) (by kernel_rfl) (fun _ _ _ h => h) (Or.inl ⟨by kernel_rfl, ?hy4⟩) hHeld ?rest4
  case hy4 => (intro w hSw; go_simp; first | done | with_reducible rfl)
  case' rest4 =>
    try simp only [Act.put, List.setIfInBounds_toArray, List.set_cons_zero, List.set_cons_succ]
  refine wpAnyH_take' (i := 4) (d := 145) (v := ?v5) rfl (by kernel_rfl) (by kernel_rfl) (by kernel_rfl) (by kernel_rfl) (fun _ _ _ h => h) (Or.inl ⟨by kernel_rfl, ?hy5⟩) hHeld ?rest5
  case hy5 => (intro w hSw; have s0 := (HKa.out w hSw).1; have s1 := (HKa.out w hSw).2.1; have s2 := (HKa.out w hSw).2.2.1; have s3 := (HKa.out w hSw).2.2.2.1; have s4 := (HKa.out w hSw).2.2.2.2.1; have s5 := (HKa.out w hSw).2.2.2.2.2; go_simp; first | done | with_reducible rfl)
  case' rest5 =>
    try simp only [Act.put, List.setIfInBounds_toArray, List.set_cons_zero, List.set_cons_succ]
  refine wpAnyH_take' (i := 6) (d := 147) (v := ?v6) rfl (by kernel_rfl) (by kernel_rfl) (by kernel_rfl) (by kernel_rfl) (fun _ _ _ h => h) (Or.inl ⟨by kernel_rfl, ?hy6⟩) hHeld ?rest6
  case hy6 => (intro w hSw; have s0 := (HKa.out w hSw).1; have s1 := (HKa.out w hSw).2.1; have s2 := (HKa.out w hSw).2.2.1; have s3 := (HKa.out w hSw).2.2.2.1; have s4 := (HKa.out w hSw).2.2.2.2.1; have s5 := (HKa.out w hSw).2.2.2.2.2; go_simp; first | done | with_reducible rfl)
  case' rest6 =>
    try simp only [Act.put, List.setIfInBounds_toArray, List.set_cons_zero, List.set_cons_succ]
  refine DetAll.run (T := 8) _ _ _ ?_ _ hHeld
  clear hHeld
  refine DetAll.call' (i := 5) (d := 146) (v := .int .i64 kx) rfl (by kernel_rfl) (by kernel_rfl) (by kernel_rfl) (by kernel_rfl) (by kernel_rfl) (by kernel_rfl) ?cy7 ?cr7
  case cy7 => exact fun W hSw => ⟨23, #[.agg #[.int .i64 a.a, .int .i64 a.b, .int .i64 a.c, .int .i64 a.d, .int .i64 a.e, .int .i64 a.f]], by kernel_rfl, (HC1.out W).mono (fun e w' h => ⟨h.1, HStep.out W w' hSw h.2⟩)⟩
  case' cr7 =>
    try simp only [Act.put, List.setIfInBounds_toArray, List.set_cons_zero, List.set_cons_succ]
  refine DetAll.call' (i := 7) (d := 148) (v := .int .i64 kx) rfl (by kernel_rfl) (by kernel_rfl) (by kernel_rfl) (by kernel_rfl) (by kernel_rfl) (by kernel_rfl) ?cy8 ?cr8
  case cy8 => exact fun W hSw => ⟨24, #[.agg #[.int .i64 a.a, .int .i64 a.b, .int .i64 a.c, .int .i64 a.d, .int .i64 a.e, .int .i64 a.f]], by kernel_rfl, (HC2.out W).mono (fun e w' h => ⟨h.1, HStep.out W w' hSw h.2⟩)⟩
  case' cr8 =>
    try simp only [Act.put, List.setIfInBounds_toArray, List.set_cons_zero, List.set_cons_succ]
  refine DetAll.leaf (by kernel_rfl) (fun W hHeld => ?_)
  refine wpAnyH_take' (i := 8) (d := 149) (v := ?v9) rfl (by kernel_rfl) (by kernel_rfl) (by kernel_rfl) (by kernel_rfl) (fun _ _ _ h => h) (Or.inl ⟨by kernel_rfl, ?hy9⟩) hHeld ?rest9
  case hy9 => (intro w hSw; go_simp; first | done | with_reducible rfl)
  case' rest9 =>
    try simp only [Act.put, List.setIfInBounds_toArray, List.set_cons_zero, List.set_cons_succ]
  refine wpAnyH_take' (i := 9) (d := 150) (v := ?v10) rfl (by kernel_rfl) (by kernel_rfl) (by kernel_rfl) (by kernel_rfl) (fun _ _ _ h => h) (Or.inl ⟨by kernel_rfl, ?hy10⟩) hHeld ?rest10
  case hy10 => (intro w hSw; go_simp; first | done | with_reducible rfl)
  case' rest10 =>
    try simp only [Act.put, List.setIfInBounds_toArray, List.set_cons_zero, List.set_cons_succ]
  refine wpAnyH_take' (i := 10) (d := 151) (v := ?v11) rfl (by kernel_rfl) (by kernel_rfl) (by kernel_rfl) (by kernel_rfl) (fun _ _ _ h => h) (Or.inl ⟨by kernel_rfl, ?hy11⟩) hHeld ?rest11
  case hy11 => (intro w hSw; go_simp; first | done | with_reducible rfl)
  case' rest11 =>
    try simp only [Act.put, List.setIfInBounds_toArray, List.set_cons_zero, List.set_cons_succ]
  refine wpAnyH_take' (i := 11) (d := 152) (v := ?v12) rfl (by kernel_rfl) (by kernel_rfl) (by kernel_rfl) (by kernel_rfl) (fun _ _ _ h => h) (Or.inl ⟨by kernel_rfl, ?hy12⟩) hHeld ?rest12
  case hy12 => (intro w hSw; go_simp; first | done | with_reducible rfl)
  case' rest12 =>
    try simp only [Act.put, List.setIfInBounds_toArray, List.set_cons_zero, List.set_cons_succ]
  refine wpAnyH_take' (i := 12) (d := 153) (v := ?v13) rfl (by kernel_rfl) (by kernel_rfl) (by kernel_rfl) (by kernel_rfl) (fun _ _ _ h => h) (Or.inl ⟨by kernel_rfl, ?hy13⟩) hHeld ?rest13
  case hy13 => (intro w hSw; have s0 := (HKp.out w hSw).1; have s1 := (HKp.out w hSw).2; go_simp; first | done | with_reducible rfl)
  case' rest13 =>
    try simp only [Act.put, List.setIfInBounds_toArray, List.set_cons_zero, List.set_cons_succ]
  refine wpAnyH_take' (i := 13) (d := 154) (v := ?v14) rfl (by kernel_rfl) (by kernel_rfl) (by kernel_rfl) (by kernel_rfl) (fun _ _ _ h => h) (Or.inl ⟨by kernel_rfl, ?hy14⟩) hHeld ?rest14
  case hy14 => (intro w hSw; go_simp; first | done | with_reducible rfl)
  case' rest14 =>
    try simp only [Act.put, List.setIfInBounds_toArray, List.set_cons_zero, List.set_cons_succ]
  refine wpAnyH_take' (i := 14) (d := 155) (v := ?v15) rfl (by kernel_rfl) (by kernel_rfl) (by kernel_rfl) (by kernel_rfl) (fun _ _ _ h => h) (Or.inl ⟨by kernel_rfl, ?hy15⟩) hHeld ?rest15
  case hy15 => (intro w hSw; have s0 := (HKp.out w hSw).1; have s1 := (HKp.out w hSw).2; go_simp; first | done | with_reducible rfl)
  case' rest15 =>
    try simp only [Act.put, List.setIfInBounds_toArray, List.set_cons_zero, List.set_cons_succ]
  refine wpAnyH_take' (i := 16) (d := 157) (v := ?v16) rfl (by kernel_rfl) (by kernel_rfl) (by kernel_rfl) (by kernel_rfl) (fun _ _ _ h => h) (Or.inl ⟨by kernel_rfl, ?hy16⟩) hHeld ?rest16
  case hy16 => (intro w hSw; go_simp; first | done | with_reducible rfl)
  case' rest16 =>
    try simp only [Act.put, List.setIfInBounds_toArray, List.set_cons_zero, List.set_cons_succ]
  refine wpAnyH_take' (i := 17) (d := 158) (v := ?v17) rfl (by kernel_rfl) (by kernel_rfl) (by kernel_rfl) (by kernel_rfl) (fun _ _ _ h => h) (Or.inl ⟨by kernel_rfl, ?hy17⟩) hHeld ?rest17
  case hy17 => (intro w hSw; have s0 := (HKp.out w hSw).1; have s1 := (HKp.out w hSw).2; go_simp; first | done | with_reducible rfl)
  case' rest17 =>
    try simp only [Act.put, List.setIfInBounds_toArray, List.set_cons_zero, List.set_cons_succ]
  refine wpAnyH_take' (i := 18) (d := 159) (v := ?v18) rfl (by kernel_rfl) (by kernel_rfl) (by kernel_rfl) (by kernel_rfl) (fun _ _ _ h => h) (Or.inl ⟨by kernel_rfl, ?hy18⟩) hHeld ?rest18
  case hy18 => (intro w hSw; go_simp; first | done | with_reducible rfl)
  case' rest18 =>
    try simp only [Act.put, List.setIfInBounds_toArray, List.set_cons_zero, List.set_cons_succ]
  refine wpAnyH_take' (i := 19) (d := 160) (v := ?v19) rfl (by kernel_rfl) (by kernel_rfl) (by kernel_rfl) (by kernel_rfl) (fun _ _ _ h => h) (Or.inl ⟨by kernel_rfl, ?hy19⟩) hHeld ?rest19
  case hy19 => (intro w hSw; have s0 := (HKp.out w hSw).1; have s1 := (HKp.out w hSw).2; go_simp; first | done | with_reducible rfl)
  case' rest19 =>
    try simp only [Act.put, List.setIfInBounds_toArray, List.set_cons_zero, List.set_cons_succ]
  refine DetAll.run (T := 21) _ _ _ ?_ _ hHeld
  clear hHeld
  refine DetAll.call' (i := 15) (d := 156) (v := .agg #[.int .i64 10000, .int .i64 0, .int .i64 0, .int .i64 10000, .int .i64 x, .int .i64 y]) rfl (by kernel_rfl) (by kernel_rfl) (by kernel_rfl) (by kernel_rfl) (by kernel_rfl) (by kernel_rfl) ?cy20 ?cr20
  case cy20 => exact fun W hSw => ⟨25, #[.int .i64 x, .int .i64 y], by kernel_rfl, (HV1.out W).mono (fun e w' h => ⟨h.1, HStep.out W w' hSw h.2⟩)⟩
  case' cr20 =>
    try simp only [Act.put, List.setIfInBounds_toArray, List.set_cons_zero, List.set_cons_succ]
  refine DetAll.call' (i := 20) (d := 161) (v := .agg #[.int .i64 10000, .int .i64 0, .int .i64 0, .int .i64 10000, .int .i64 x, .int .i64 y]) rfl (by kernel_rfl) (by kernel_rfl) (by kernel_rfl) (by kernel_rfl) (by kernel_rfl) (by kernel_rfl) ?cy21 ?cr21
  case cy21 => exact fun W hSw => ⟨26, #[.int .i64 x, .int .i64 y], by kernel_rfl, (HV2.out W).mono (fun e w' h => ⟨h.1, HStep.out W w' hSw h.2⟩)⟩
  case' cr21 =>
    try simp only [Act.put, List.setIfInBounds_toArray, List.set_cons_zero, List.set_cons_succ]
  refine DetAll.leaf (by kernel_rfl) (fun W hHeld => ?_)
  refine wpAnyH_take' (i := 21) (d := 162) (v := ?v22) rfl (by kernel_rfl) (by kernel_rfl) (by kernel_rfl) (by kernel_rfl) (fun _ _ _ h => h) (Or.inl ⟨by kernel_rfl, ?hy22⟩) hHeld ?rest22
  case hy22 => (intro w hSw; go_simp; first | done | with_reducible rfl)
  case' rest22 =>
    try simp only [Act.put, List.setIfInBounds_toArray, List.set_cons_zero, List.set_cons_succ]
  refine wpAnyH_take' (i := 22) (d := 163) (v := ?v23) rfl (by kernel_rfl) (by kernel_rfl) (by kernel_rfl) (by kernel_rfl) (fun _ _ _ h => h) (Or.inl ⟨by kernel_rfl, ?hy23⟩) hHeld ?rest23
  case hy23 => (intro w hSw; go_simp; first | done | with_reducible rfl)
  case' rest23 =>
    try simp only [Act.put, List.setIfInBounds_toArray, List.set_cons_zero, List.set_cons_succ]
  refine wpAnyH_take' (i := 23) (d := 164) (v := ?v24) rfl (by kernel_rfl) (by kernel_rfl) (by kernel_rfl) (by kernel_rfl) (fun _ _ _ h => h) (Or.inl ⟨by kernel_rfl, ?hy24⟩) hHeld ?rest24
  case hy24 => (intro w hSw; go_simp; first | done | with_reducible rfl)
  case' rest24 =>
    try simp only [Act.put, List.setIfInBounds_toArray, List.set_cons_zero, List.set_cons_succ]
  refine wpAnyH_take' (i := 24) (d := 165) (v := ?v25) rfl (by kernel_rfl) (by kernel_rfl) (by kernel_rfl) (by kernel_rfl) (fun _ _ _ h => h) (Or.inl ⟨by kernel_rfl, ?hy25⟩) hHeld ?rest25
  case hy25 => (intro w hSw; go_simp; first | done | with_reducible rfl)
  case' rest25 =>
    try simp only [Act.put, List.setIfInBounds_toArray, List.set_cons_zero, List.set_cons_succ]
  refine wpAnyH_take' (i := 25) (d := 166) (v := ?v26) rfl (by kernel_rfl) (by kernel_rfl) (by kernel_rfl) (by kernel_rfl) (fun _ _ _ h => h) (Or.inl ⟨by kernel_rfl, ?hy26⟩) hHeld ?rest26
  case hy26 => (intro w hSw; have s0 := (HKp.out w hSw).1; have s1 := (HKp.out w hSw).2; go_simp; first | done | with_reducible rfl)
  case' rest26 =>
    try simp only [Act.put, List.setIfInBounds_toArray, List.set_cons_zero, List.set_cons_succ]
  refine wpAnyH_take' (i := 26) (d := 167) (v := ?v27) rfl (by kernel_rfl) (by kernel_rfl) (by kernel_rfl) (by kernel_rfl) (fun _ _ _ h => h) (Or.inl ⟨by kernel_rfl, ?hy27⟩) hHeld ?rest27
  case hy27 => (intro w hSw; go_simp; first | done | with_reducible rfl)
  case' rest27 =>
    try simp only [Act.put, List.setIfInBounds_toArray, List.set_cons_zero, List.set_cons_succ]
  refine wpAnyH_take' (i := 27) (d := 168) (v := ?v28) rfl (by kernel_rfl) (by kernel_rfl) (by kernel_rfl) (by kernel_rfl) (fun _ _ _ h => h) (Or.inl ⟨by kernel_rfl, ?hy28⟩) hHeld ?rest28
  case hy28 => (intro w hSw; have s0 := (HKp.out w hSw).1; have s1 := (HKp.out w hSw).2; go_simp; first | done | with_reducible rfl)
  case' rest28 =>
    try simp only [Act.put, List.setIfInBounds_toArray, List.set_cons_zero, List.set_cons_succ]
  refine wpAnyH_take' (i := 29) (d := 170) (v := ?v29) rfl (by kernel_rfl) (by kernel_rfl) (by kernel_rfl) (by kernel_rfl) (fun _ _ _ h => h) (Or.inl ⟨by kernel_rfl, ?hy29⟩) hHeld ?rest29
  case hy29 => (intro w hSw; go_simp; first | done | with_reducible rfl)
  case' rest29 =>
    try simp only [Act.put, List.setIfInBounds_toArray, List.set_cons_zero, List.set_cons_succ]
  refine wpAnyH_take' (i := 30) (d := 171) (v := ?v30) rfl (by kernel_rfl) (by kernel_rfl) (by kernel_rfl) (by kernel_rfl) (fun _ _ _ h => h) (Or.inl ⟨by kernel_rfl, ?hy30⟩) hHeld ?rest30
  case hy30 => (intro w hSw; have s0 := (HKp.out w hSw).1; have s1 := (HKp.out w hSw).2; go_simp; first | done | with_reducible rfl)
  case' rest30 =>
    try simp only [Act.put, List.setIfInBounds_toArray, List.set_cons_zero, List.set_cons_succ]
  refine wpAnyH_take' (i := 31) (d := 172) (v := ?v31) rfl (by kernel_rfl) (by kernel_rfl) (by kernel_rfl) (by kernel_rfl) (fun _ _ _ h => h) (Or.inl ⟨by kernel_rfl, ?hy31⟩) hHeld ?rest31
  case hy31 => (intro w hSw; go_simp; first | done | with_reducible rfl)
  case' rest31 =>
    try simp only [Act.put, List.setIfInBounds_toArray, List.set_cons_zero, List.set_cons_succ]
  refine wpAnyH_take' (i := 32) (d := 173) (v := ?v32) rfl (by kernel_rfl) (by kernel_rfl) (by kernel_rfl) (by kernel_rfl) (fun _ _ _ h => h) (Or.inl ⟨by kernel_rfl, ?hy32⟩) hHeld ?rest32
  case hy32 => (intro w hSw; have s0 := (HKp.out w hSw).1; have s1 := (HKp.out w hSw).2; go_simp; first | done | with_reducible rfl)
  case' rest32 =>
    try simp only [Act.put, List.setIfInBounds_toArray, List.set_cons_zero, List.set_cons_succ]
  refine DetAll.run (T := 34) _ _ _ ?_ _ hHeld
  clear hHeld
  refine DetAll.call' (i := 28) (d := 169) (v := .agg #[.int .i64 x, .int .i64 0, .int .i64 0, .int .i64 y, .int .i64 0, .int .i64 0]) rfl (by kernel_rfl) (by kernel_rfl) (by kernel_rfl) (by kernel_rfl) (by kernel_rfl) (by kernel_rfl) ?cy33 ?cr33
  case cy33 => exact fun W hSw => ⟨27, #[.int .i64 x, .int .i64 y], by kernel_rfl, (HW1.out W).mono (fun e w' h => ⟨h.1, HStep.out W w' hSw h.2⟩)⟩
  case' cr33 =>
    try simp only [Act.put, List.setIfInBounds_toArray, List.set_cons_zero, List.set_cons_succ]
  refine DetAll.call' (i := 33) (d := 174) (v := .agg #[.int .i64 x, .int .i64 0, .int .i64 0, .int .i64 y, .int .i64 0, .int .i64 0]) rfl (by kernel_rfl) (by kernel_rfl) (by kernel_rfl) (by kernel_rfl) (by kernel_rfl) (by kernel_rfl) ?cy34 ?cr34
  case cy34 => exact fun W hSw => ⟨28, #[.int .i64 x, .int .i64 y], by kernel_rfl, (HW2.out W).mono (fun e w' h => ⟨h.1, HStep.out W w' hSw h.2⟩)⟩
  case' cr34 =>
    try simp only [Act.put, List.setIfInBounds_toArray, List.set_cons_zero, List.set_cons_succ]
  refine DetAll.leaf (by kernel_rfl) (fun W hHeld => ?_)
  refine wpAnyH_take' (i := 34) (d := 175) (v := ?v35) rfl (by kernel_rfl) (by kernel_rfl) (by kernel_rfl) (by kernel_rfl) (fun _ _ _ h => h) (Or.inl ⟨by kernel_rfl, ?hy35⟩) hHeld ?rest35
  case hy35 => (intro w hSw; go_simp; first | done | with_reducible rfl)
  case' rest35 =>
    try simp only [Act.put, List.setIfInBounds_toArray, List.set_cons_zero, List.set_cons_succ]
  refine wpAnyH_take' (i := 35) (d := 176) (v := ?v36) rfl (by kernel_rfl) (by kernel_rfl) (by kernel_rfl) (by kernel_rfl) (fun _ _ _ h => h) (Or.inl ⟨by kernel_rfl, ?hy36⟩) hHeld ?rest36
  case hy36 => (intro w hSw; go_simp; first | done | with_reducible rfl)
  case' rest36 =>
    try simp only [Act.put, List.setIfInBounds_toArray, List.set_cons_zero, List.set_cons_succ]
  refine wpAnyH_take' (i := 36) (d := 177) (v := ?v37) rfl (by kernel_rfl) (by kernel_rfl) (by kernel_rfl) (by kernel_rfl) (fun _ _ _ h => h) (Or.inl ⟨by kernel_rfl, ?hy37⟩) hHeld ?rest37
  case hy37 => (intro w hSw; go_simp; first | done | with_reducible rfl)
  case' rest37 =>
    try simp only [Act.put, List.setIfInBounds_toArray, List.set_cons_zero, List.set_cons_succ]
  refine wpAnyH_take' (i := 37) (d := 178) (v := ?v38) rfl (by kernel_rfl) (by kernel_rfl) (by kernel_rfl) (by kernel_rfl) (fun _ _ _ h => h) (Or.inl ⟨by kernel_rfl, ?hy38⟩) hHeld ?rest38
  case hy38 => (intro w hSw; have s0 := (HKa.out w hSw).1; have s1 := (HKa.out w hSw).2.1; have s2 := (HKa.out w hSw).2.2.1; have s3 := (HKa.out w hSw).2.2.2.1; have s4 := (HKa.out w hSw).2.2.2.2.1; have s5 := (HKa.out w hSw).2.2.2.2.2; go_simp; first | done | with_reducible rfl)
  case' rest38 =>
    try simp only [Act.put, List.setIfInBounds_toArray, List.set_cons_zero, List.set_cons_succ]
  refine wpAnyH_take' (i := 39) (d := 180) (v := ?v39) rfl (by kernel_rfl) (by kernel_rfl) (by kernel_rfl) (by kernel_rfl) (fun _ _ _ h => h) (Or.inl ⟨by kernel_rfl, ?hy39⟩) hHeld ?rest39
  case hy39 => (intro w hSw; have s0 := (HKa.out w hSw).1; have s1 := (HKa.out w hSw).2.1; have s2 := (HKa.out w hSw).2.2.1; have s3 := (HKa.out w hSw).2.2.2.1; have s4 := (HKa.out w hSw).2.2.2.2.1; have s5 := (HKa.out w hSw).2.2.2.2.2; go_simp; first | done | with_reducible rfl)
  case' rest39 =>
    try simp only [Act.put, List.setIfInBounds_toArray, List.set_cons_zero, List.set_cons_succ]
  clear HKa HKp HO1 HO2 HC1 HC2 HV1 HV2 HW1 HW2
  refine wpAnyH_call (i := 38) (d := 179) (α := Nat × Nat) (fun x => .agg #[.int .i64 6, .int .i64 0, .int .i64 0, .string ⟨#[]⟩, .slice none 0 0, .slice (some ⟨x.1, 0, none⟩) 6 x.2]) (fun x w' => ORow w' x.1 lw ∧ Below W.heap.size W w') (by kernel_rfl) rfl (by kernel_rfl) (by kernel_rfl) ?ybr1 ?sbr1 ?br1
  case ybr1 => exact ⟨30, #[.agg #[.int .i64 a.a, .int .i64 a.b, .int .i64 a.c, .int .i64 a.d, .int .i64 a.e, .int .i64 a.f]], by kernel_rfl, HJ1.out W⟩
  case sbr1 => exact fun x w' hR => HStep.out _ _ hHeld hR.2
  case' br1 => intro x Wx kx hHeldx
  case br1 =>
    try simp only [Act.put, List.setIfInBounds_toArray, List.set_cons_zero, List.set_cons_succ]
    clear hHeld
    refine wpAnyH_call (i := 40) (d := 181) (α := Nat × Nat) (fun x => .agg #[.int .i64 6, .int .i64 0, .int .i64 0, .string ⟨#[]⟩, .slice none 0 0, .slice (some ⟨x.1, 0, none⟩) 6 x.2]) (fun x w' => ORow w' x.1 lw ∧ Below Wx.heap.size Wx w') (by kernel_rfl) rfl (by kernel_rfl) (by kernel_rfl) ?ybs ?sbs ?bs
    case ybs => exact ⟨31, #[.agg #[.int .i64 a.a, .int .i64 a.b, .int .i64 a.c, .int .i64 a.d, .int .i64 a.e, .int .i64 a.f]], by kernel_rfl, HJ2.out Wx⟩
    case sbs => exact fun x w' hR => HStep.out _ _ hHeldx hR.2
    case' bs => intro y Wy ky hHeldy
    case bs =>
      try simp only [Act.put, List.setIfInBounds_toArray, List.set_cons_zero, List.set_cons_succ]
      have hrx := kx.1.below ky.2 (kx.1.lt (by rw [HLen.out]; decide))
      have hry := ky.1
      clear kx ky hHeldx
      refine wpAnyH_call (i := 41) (d := 182) (α := Unit) (fun _ => .bool true) (fun _ w' => Below Wy.heap.size Wy w') (by kernel_rfl) rfl (by kernel_rfl) (by kernel_rfl) ?ybt ?sbt ?bt
      case ybt => exact ⟨29, #[.agg #[.int .i64 6, .int .i64 0, .int .i64 0, .string ⟨#[]⟩, .slice none 0 0, .slice (some ⟨x.1, 0, none⟩) 6 x.2], .agg #[.int .i64 6, .int .i64 0, .int .i64 0, .string ⟨#[]⟩, .slice none 0 0, .slice (some ⟨y.1, 0, none⟩) 6 y.2]], by kernel_rfl, (same_row x.1 y.1 x.2 y.2 lw Wy hrx hry HLen.out).mono (fun e w' h => ⟨(), h⟩)⟩
      case sbt => exact fun x w' hR => HStep.out _ _ hHeldy hR
      case' bt => intro _ Ws ks hHelds
      case bt =>
        try simp only [Act.put, List.setIfInBounds_toArray, List.set_cons_zero, List.set_cons_succ]
        clear ks hHeldy hrx hry
        refine wpAnyH_take' (i := 42) (d := 183) (v := ?v40) rfl (by kernel_rfl) (by kernel_rfl) (by kernel_rfl) (by kernel_rfl) (fun _ _ _ h => h) (Or.inl ⟨by kernel_rfl, ?hy40⟩) hHelds ?rest40
        case hy40 => (intro w hSw; go_simp; first | done | with_reducible rfl)
        case' rest40 =>
          try simp only [Act.put, List.setIfInBounds_toArray, List.set_cons_zero, List.set_cons_succ]
        refine wpAnyH_take' (i := 43) (d := 184) (v := ?v41) rfl (by kernel_rfl) (by kernel_rfl) (by kernel_rfl) (by kernel_rfl) (fun _ _ _ h => h) (Or.inl ⟨by kernel_rfl, ?hy41⟩) hHelds ?rest41
        case hy41 => (intro w hSw; go_simp; first | done | with_reducible rfl)
        case' rest41 =>
          try simp only [Act.put, List.setIfInBounds_toArray, List.set_cons_zero, List.set_cons_succ]
        refine wpAnyH_call (i := 44) (d := 185) (α := Unit) (fun _ => .bool true) (fun _ w' => Below Ws.heap.size Ws w') (by kernel_rfl) rfl (by kernel_rfl) (by kernel_rfl) ?ybu ?sbu ?bu
        case ybu => exact ⟨10, #[], by kernel_rfl, (matLives Ws).mono (fun e w' h => ⟨(), h⟩)⟩
        case sbu => exact fun x w' hR => HStep.out _ _ hHelds hR
        case' bu => intro _ Wl kl hHeldl
        case bu =>
          try simp only [Act.put, List.setIfInBounds_toArray, List.set_cons_zero, List.set_cons_succ]
          have HFin := Lib.hid (HEnd.out _ hHeldl)
          clear kl hHelds
          refine wpAnyH_take' (i := 45) (d := 186) (v := ?v42) rfl (by kernel_rfl) (by kernel_rfl) (by kernel_rfl) (by kernel_rfl) (fun _ _ _ h => h) (Or.inl ⟨by kernel_rfl, ?hy42⟩) hHeldl ?rest42
          case hy42 => (intro w hSw; go_simp; first | done | with_reducible rfl)
          case' rest42 =>
            try simp only [Act.put, List.setIfInBounds_toArray, List.set_cons_zero, List.set_cons_succ]
          refine wpAnyH_take' (i := 46) (d := 10) (v := ?v43) rfl (by kernel_rfl) (by kernel_rfl) (by kernel_rfl) (by kernel_rfl) (fun _ _ _ h => h) (Or.inl ⟨by kernel_rfl, ?hy43⟩) hHeldl ?rest43
          case hy43 => (intro w hSw; go_simp; first | done | with_reducible rfl)
          case' rest43 =>
            try simp only [Act.put, List.setIfInBounds_toArray, List.set_cons_zero, List.set_cons_succ]
          clear hHeldl
          refine wpAnyH_done (by kernel_rfl) ?_ _
          go_wp2_with fail
          go_ret
          exact ⟨by first | rfl | kernel_rfl | (simp; done), HFin.out⟩
end Go.Proofs.Ythihmbicalacfaa
