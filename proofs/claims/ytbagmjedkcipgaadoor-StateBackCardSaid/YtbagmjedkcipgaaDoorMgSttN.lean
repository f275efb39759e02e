/-
  The operators that the law's own test applies: q, w, Q, J; New, First, Depth, State; the operators as they are made.
-/
import Derived.Test.YtbagmjedkcipgaaDoorMgSttM
import Derived.Test.YtbagmjedkcipgaaDoorMgSttC
namespace Go.Proofs.YtbagmjedkcipgaaDoor
open Go.RowKit Mat

theorem own_same {w w' : World} {base : Nat} {e : TypeId} {size n : Nat} {v : Value} {xs : List Value} (h : w.ownsRow base e size v n xs) (hs : ∀ g, v.ownBlock = some g → w'.heap[g]? = w.heap[g]?) : w'.ownsRow base e size v n xs := by
  refine ⟨h.1, ?_⟩
  rcases h.2 with h2 | ⟨g, cap, cur, h1, h2, h3, h4⟩
  · exact Or.inl h2
  · exact Or.inr ⟨g, cap, cur, h1, h2, (hs g (by rw [h1]; rfl)).trans h3, h4⟩
theorem own_lt {w : World} {base : Nat} {e : TypeId} {size n : Nat} {v : Value} {xs : List Value} (h : w.ownsRow base e size v n xs) {g : Nat} (hg : v.ownBlock = some g) : g < w.heap.size := (h.lt g hg).2
theorem own_below {w w' : World} {base : Nat} {e : TypeId} {size n : Nat} {v : Value} {xs : List Value} (h : w.ownsRow base e size v n xs) (hb : Below w.heap.size w w') : w'.ownsRow base e size v n xs :=
  own_same h fun _ hg => hb.block _ (own_lt h hg)
theorem own_two {w w' : World} {base x : Nat} {e : TypeId} {size n : Nat} {v : Value} {xs : List Value} (h : w.ownsRow base e size v n xs) (ht : Two w w' x none) (hx : v.ownBlock ≠ some x) : w'.ownsRow base e size v n xs :=
  own_same h fun g hg => ht.block g (own_lt h hg) (fun e => hx (by rw [hg, e])) (by simp)
theorem space_two {w w' : World} {x : Nat} {r : Option Nat} (h : SpaceAt w) (ht : Two w w' x r) (hg : 0 < w.heap.size) (h1 : 0 ≠ x) (h2 : ∀ k, r = some k → 0 ≠ k) : SpaceAt w' := by
  have hb := ht.block _ hg h1 (fun e => h2 _ e.symm rfl)
  unfold SpaceAt at *
  simpa [World.cell?, hb] using h

theorem chk_q : chkOp [113] [] [] = 0 := by
  unfold chkOp; rw [takes_q.1]; decide
theorem chk_Q : chkOp [81] [] [] = 0 := by
  unfold chkOp; rw [takes_q.2.1]; decide
theorem chk_w : chkOp [119] [] [2] = 0 := by
  unfold chkOp; rw [takes_q.2.2.1]; decide
theorem chk_J : chkOp [74] [] [2] = 0 := by
  unfold chkOp; rw [takes_q.2.2.2.1]; decide
theorem chk_rg : chkOp [114, 103] [] [2] = 28 := by
  unfold chkOp; rw [takes_q.2.2.2.2.2]; decide

theorem args_one {w : World} {b : Nat} {y : Int} (h : Blk w b 50 #[.int .i64 2, .int .i64 y, .int .i64 0, .string ⟨#[]⟩, .slice none 0 0, .slice none 0 0]) : ArgsAt w (some ⟨b, 0, none⟩) [2] := fun j hj => by
  have hj : j = 0 := by simpa using hj
  subst hj
  exact ⟨b, 0, y, 0, ⟨#[]⟩, none, none, 0, 0, 0, 0, rfl, h.lt, (h.cell 0).trans rfl, (h.cell 1).trans rfl, (h.cell 2).trans rfl, (h.cell 3).trans rfl, (h.cell 4).trans rfl, (h.cell 5).trans rfl⟩
theorem num_one {w : World} {b : Nat} {y : Int} (h : Blk w b 50 #[.int .i64 2, .int .i64 y, .int .i64 0, .string ⟨#[]⟩, .slice none 0 0, .slice none 0 0]) : NumAt w b 0 2 y :=
  ⟨0, ⟨#[]⟩, _, _, h.lt, (h.cell 0).trans rfl, (h.cell 1).trans rfl, (h.cell 2).trans rfl, (h.cell 3).trans rfl, (h.cell 4).trans rfl, (h.cell 5).trans rfl⟩
theorem set6_ok {M : Array Value} (h : MOk M) (u : Int) : MOk (M.setIfInBounds 6 (.int .i64 u)) := by
  refine ⟨by rw [Array.size_setIfInBounds]; exact h.1, Array.all_eq_true_iff_forall_mem.2 fun z hz => ?_⟩
  rcases Array.mem_or_eq_of_mem_setIfInBounds hz with h1 | h1
  · exact (Array.all_eq_true_iff_forall_mem.1 h.2) z h1
  · rw [h1]; rfl

section
variable (x : Nat) (M : Array Value) (v : Value) (w : World) (hsp : SpaceAt w) (hg : 0 < w.heap.size) (hx : Blk w x 57 M) (hM : MOk M) (hv : M[30]? = some v)
theorem args_nil : ArgsAt w none [] := fun _ hj => absurd hj (Nat.not_lt_zero _)

include hsp hg hx hM hv in
theorem do_q (k : Nat) (xs : List Value) (ho : Saved w v k xs) (hk : k < 28) (hne : v.ownBlock ≠ some x) :
    Calls Tryd.prog 8 #[.pointer (some ⟨x, 0, none⟩), .agg #[.string ⟨#[113]⟩, .slice none 0 0, .string ⟨#[]⟩]] w fun e w' => e = .returned (.int .i64 0) ∧ ∃ v', Blk w' x 57 (putS M v') ∧ MOk (putS M v') ∧ Saved w' v' (k + 1) (xs ++ gOf M) ∧ v'.ownBlock ≠ some x ∧ (v'.ownBlock = v.ownBlock ∨ ∃ g, v'.ownBlock = some g ∧ w.heap.size ≤ g) ∧ Two w w' x v.ownBlock := by
  refine (do_ok 28 x M ⟨#[113]⟩ ⟨#[]⟩ none 0 [] v.ownBlock
    (fun V M' w' => ∃ v', M' = putS M v' ∧ v'.oneCell' = true ∧ Saved w' v' (k + 1) (xs ++ gOf M) ∧ v'.ownBlock ≠ some x ∧ (∀ g, v'.ownBlock = some g → g < w.heap.size ∨ V.heap.size ≤ g) ∧ (v'.ownBlock = v.ownBlock ∨ ∃ g, v'.ownBlock = some g ∧ w.heap.size ≤ g)) w
    (fun _ _ => by kernel_rfl) change_q chk_q (args_nil w) (by decide) hsp hg hx hM (fun k' hk' => ⟨own_lt ho hk', fun e => hne (by rw [hk', e])⟩) ?_ ?_).mono ?_
  · rintro V M' a b ⟨v', h1, h2, h3, h4, h5, h6⟩ hs hb
    exact ⟨v', h1, h2, own_same h3 (fun g hg' => hb g (own_lt h3 hg') (fun e => h4 (by rw [hg', e])) (h5 g hg')), h4, h5, h6⟩
  · intro V N hV hN hVN
    refine (change1_any N M v k xs V none 0 0 hM hv hVN (own_below ho hV) hk (fun e => by have := own_lt ho e; omega)).mono ?_
    rintro e w' ⟨rfl, v', h1, h2, h3, h4, h5, h6⟩
    refine ⟨rfl, putS M v', putS_ok hM h2, h1, h6, v', rfl, h2, h3, ?_, ?_, ?_⟩
    · rcases h5 with h | ⟨g, h, h7⟩
      · rw [h]; exact hne
      · rw [h]; intro e; injection e with e; have := hV.size; have := hx.lt; omega
    · intro g hg'
      rcases h5 with h | ⟨g', h, h7⟩
      · exact Or.inl (own_lt ho (by rw [← h, hg']))
      · rw [hg'] at h; injection h with h; exact Or.inr (by omega)
    · rcases h5 with h | ⟨g, h, h7⟩
      · exact Or.inl h
      · exact Or.inr ⟨g, h, by have := hV.size; omega⟩
  · rintro e w' ⟨rfl, V, M', h1, h2, ⟨v', rfl, h3, h4, h5, _, h6⟩, h7⟩
    exact ⟨rfl, v', h1, h2, h4, h5, h6, h7⟩

include hsp hg hx hM in
theorem do_w (b ac : Nat) (y : Int) (hA : Blk w b 50 #[.int .i64 2, .int .i64 y, .int .i64 0, .string ⟨#[]⟩, .slice none 0 0, .slice none 0 0]) (hy : okTo 2 y 1073741824 = true) :
    Calls Tryd.prog 8 #[.pointer (some ⟨x, 0, none⟩), .agg #[.string ⟨#[119]⟩, .slice (some ⟨b, 0, none⟩) 1 ac, .string ⟨#[]⟩]] w fun e w' => e = .returned (.int .i64 0) ∧ Blk w' x 57 (M.setIfInBounds 6 (.int .i64 (unitsOf 2 y))) ∧ MOk (M.setIfInBounds 6 (.int .i64 (unitsOf 2 y))) ∧ Two w w' x none := by
  refine (do_ok 36 x M ⟨#[119]⟩ ⟨#[]⟩ (some ⟨b, 0, none⟩) ac [2] none (fun V M' w' => M' = M.setIfInBounds 6 (.int .i64 (unitsOf 2 y))) w
    (fun _ _ => by kernel_rfl) change_w chk_w (args_one hA) (by decide) hsp hg hx hM (fun k' hk' => by cases hk') ?_ ?_).mono ?_
  · rintro V M' a b h _ _
    exact h
  · intro V N hV hN hVN
    refine (change4_ok N M b 0 1 ac 2 y V hVN (num_one (hA.below hV hA.lt)) (by decide) hy (by rw [hM.1]; decide)).mono ?_
    rintro e w' ⟨rfl, h1, h2⟩
    exact ⟨rfl, _, set6_ok hM _, h1, h2, rfl⟩
  · rintro e w' ⟨rfl, V, M', h1, h2, rfl, h7⟩
    exact ⟨rfl, h1, h2, h7⟩

include hsp hg hx hM hv in
theorem do_Q (k : Nat) (xs G : List Value) (ho : Saved w v (k + 1) (xs ++ G)) (hG : G.length = 30) (hG1 : ∀ u ∈ G, u.oneCell' = true) (hk : k < 28) (hne : v.ownBlock ≠ some x) :
    Calls Tryd.prog 8 #[.pointer (some ⟨x, 0, none⟩), .agg #[.string ⟨#[81]⟩, .slice none 0 0, .string ⟨#[]⟩]] w fun e w' => e = .returned (.int .i64 0) ∧ ∃ v', Blk w' x 57 (mkM G v') ∧ MOk (mkM G v') ∧ Saved w' v' k xs ∧ v'.ownBlock = v.ownBlock ∧ Two w w' x none := by
  refine (do_ok 30 x M ⟨#[81]⟩ ⟨#[]⟩ none 0 [] none
    (fun V M' w' => ∃ v', M' = mkM G v' ∧ Saved w' v' k xs ∧ v'.ownBlock = v.ownBlock) w
    (fun _ _ => by kernel_rfl) change_Q chk_Q (args_nil w) (by decide) hsp hg hx hM (fun k' hk' => by cases hk') ?_ ?_).mono ?_
  · rintro V M' a b ⟨v', h1, h3, h4⟩ hs hb
    exact ⟨v', h1, own_same h3 (fun g hg' => hb g (own_lt h3 hg') (fun e => hne (by rw [← h4, hg', e])) (Or.inl (own_lt ho (by rw [← h4, hg'])))), h4⟩
  · intro V N hV hN hVN
    refine (change2_ok N M v k xs G V none 0 0 hM hv hVN (own_below ho hV) hG hG1 hk (fun e => by have := own_lt ho e; omega)).mono ?_
    rintro e w' ⟨rfl, v', h1, h2, h3, h4, h6⟩
    exact ⟨rfl, mkM G v', mkM_ok hG hG1 h2, h1, h6, v', rfl, h3, h4⟩
  · rintro e w' ⟨rfl, V, M', h1, h2, ⟨v', rfl, h3, h4⟩, h7⟩
    exact ⟨rfl, v', h1, h2, h3, h4, h7⟩
include hsp hg hx hM in
theorem do_Q_none (A : Option Addr) (cp : Nat) (hv0 : M[30]? = some (.slice A 0 cp)) :
    Calls Tryd.prog 8 #[.pointer (some ⟨x, 0, none⟩), .agg #[.string ⟨#[81]⟩, .slice none 0 0, .string ⟨#[]⟩]] w fun e w' => e = .returned (.int .i64 29) ∧ Blk w' x 57 M ∧ Two w w' x none :=
  do_no 30 x M ⟨#[81]⟩ ⟨#[]⟩ none 0 [] 29 (by decide) w (fun _ _ => by kernel_rfl) change_Q chk_Q (args_nil w) (by decide) hsp hg hx hM
    (fun V N hV hN hVN => change2_no N M A cp V none 0 0 hv0 hVN)
include hsp hg hx hM in
theorem do_J_no (b ac : Nat) (y : Int) (hA : Blk w b 50 #[.int .i64 2, .int .i64 y, .int .i64 0, .string ⟨#[]⟩, .slice none 0 0, .slice none 0 0]) (hy : okTo 2 y 20000 = false) :
    Calls Tryd.prog 8 #[.pointer (some ⟨x, 0, none⟩), .agg #[.string ⟨#[74]⟩, .slice (some ⟨b, 0, none⟩) 1 ac, .string ⟨#[]⟩]] w fun e w' => e = .returned (.int .i64 2) ∧ Blk w' x 57 M ∧ Two w w' x none :=
  do_no 39 x M ⟨#[74]⟩ ⟨#[]⟩ (some ⟨b, 0, none⟩) ac [2] 2 (by decide) w (fun _ _ => by kernel_rfl) change_J chk_J (args_one hA) (by decide) hsp hg hx hM
    (fun V N hV hN hVN => change6_no N b 0 1 ac 2 y V (num_one (hA.below hV hA.lt)) (by decide) hy)
include hsp hg in
theorem do_rg (b ac : Nat) (y : Int) (hA : Blk w b 50 #[.int .i64 2, .int .i64 y, .int .i64 0, .string ⟨#[]⟩, .slice none 0 0, .slice none 0 0]) :
    Calls Tryd.prog 8 #[.pointer (some ⟨x, 0, none⟩), .agg #[.string ⟨#[114, 103]⟩, .slice (some ⟨b, 0, none⟩) 1 ac, .string ⟨#[]⟩]] w fun e w' => e = .returned (.int .i64 28) ∧ Below w.heap.size w w' :=
  do_bad 48 x ⟨#[114, 103]⟩ ⟨#[]⟩ (some ⟨b, 0, none⟩) ac [2] 28 (by decide) w change_rg chk_rg (args_one hA) (by decide) hsp hg
theorem do_l (A : Option Addr) (al ac : Nat) :
    Calls Tryd.prog 8 #[.pointer (some ⟨x, 0, none⟩), .agg #[.string ⟨#[108]⟩, .slice A al ac, .string ⟨#[]⟩]] w fun e w' => e = .returned (.int .i64 8) ∧ Below w.heap.size w w' :=
  do_none x ⟨#[108]⟩ ⟨#[]⟩ A al ac w change_l
end
end Go.Proofs.YtbagmjedkcipgaaDoor
