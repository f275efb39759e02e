/-
  Do of any operator.
-/
import Derived.Test.YtbagmjedkcipgaaDoorMgJSttSt
import Derived.Test.YtbagmjedkcipgaaDoorMgJSttCn
import Derived.Test.YtbagmjedkcipgaaDoorMgMatC
namespace Go.Proofs.YtbagmjedkcipgaaDoor
open Go.RowKit Mat

section
variable (H x : Nat) (s : St) (v : Value) (ss : List St) (data : ByteArray) (b off ac : Nat)
set_option maxRecDepth 100000 in
theorem do_cm_any (ts : List Tree) (hl : ts.length = 6) (hks : chkOp [99, 109] data.data.toList (ts.map Tree.k) = 0) :
    DoesAt H x s v ss ⟨#[99, 109]⟩ data (some ⟨b, off, none⟩) ts.length ac (fun w => KidsIs w (some ⟨b, off, none⟩) 0 ts) := by
  have e1 : (ts.map Tree.k).length = ts.length := List.length_map _
  have e2 : (ts.map Tree.kn).length = 6 := (List.length_map _).trans hl
  obtain ⟨m, hm⟩ : ∃ m : Mx, (⟨s.g 0, s.g 1, s.g 2, s.g 3, s.g 4, s.g 5⟩ : Mx) = m := ⟨_, rfl⟩
  have hmm := mst_mx s v
  rw [hm] at hmm
  by_cases hok : okNums (ts.map Tree.kn) = true
  · obtain ⟨pa, pb, pc, pd, pe, pf, hu⟩ : ∃ a b c d e f, unitsL (ts.map Tree.kn) = [a, b, c, d, e, f] := by
      have hl6 := unitsL_len (ts.map Tree.kn)
      rw [e2] at hl6
      generalize unitsL (ts.map Tree.kn) = ul at hl6
      match ul, hl6 with
      | [a, b, c, d, e, f], _ => exact ⟨_, _, _, _, _, _, rfl⟩
    obtain ⟨p, hp⟩ : ∃ p : Mx, (⟨pa, pb, pc, pd, pe, pf⟩ : Mx) = p := ⟨_, rfl⟩
    have hu' : unitsL (ts.map Tree.kn) = [p.a, p.b, p.c, p.d, p.e, p.f] := by rw [hu, ← hp]
    by_cases hO : mulO p m = true
    · obtain ⟨q, hq⟩ : ∃ q, mulQ p m = q := ⟨_, rfl⟩
      have hx : mulX p m = 0 := by unfold mulX; rw [if_pos hO]
      refine ⟨0, fun w h hsp hg _ hK => ?_⟩
      have hAr : ArgsAt w (some ⟨b, off, none⟩) (ts.map Tree.k) := kids_args hK
      rw [← e1]
      refine do_set h hsp hg 32 (fun _ _ => by kernel_rfl) ⟨#[99, 109]⟩ data (some ⟨b, off, none⟩) ac (ts.map Tree.k) change_cm hAr (by omega) ((((((s.put 0 q.a).put 1 q.b).put 2 q.c).put 3 q.d).put 4 q.e).put 5 q.f) rfl rfl rfl hks fun V N hV hN hVN => ?_
      have := c3_ok N (mst s v) b off ac (ts.map Tree.kn) p m q V hVN hmm (kids_nums (KidsIs.below hV _ _ 0 hK)) e2 hu' hok (fun W => mul_mx p m q 0 W hq hx)
      rw [set_num _ _ _ (by decide) (by decide) (by decide), set_num _ _ _ (by decide) (by decide) (by decide), set_num _ _ _ (by decide) (by decide) (by decide), set_num _ _ _ (by decide) (by decide) (by decide), set_num _ _ _ (by decide) (by decide) (by decide), set_num _ _ _ (by decide) (by decide) (by decide)] at this
      rw [e1, hl]
      exact this
    · obtain ⟨q, hq⟩ : ∃ q, mulQ p m = q := ⟨_, rfl⟩
      have hx : mulX p m = 2 := by unfold mulX; rw [if_neg hO]
      refine ⟨2, fun w h hsp hg _ hK => ?_⟩
      have hAr : ArgsAt w (some ⟨b, off, none⟩) (ts.map Tree.k) := kids_args hK
      rw [← e1]
      refine do_fail h hsp hg 32 (fun _ _ => by kernel_rfl) ⟨#[99, 109]⟩ data (some ⟨b, off, none⟩) ac (ts.map Tree.k) change_cm hAr (by omega) 2 (by decide) hks fun V N hV hN hVN => ?_
      rw [e1, hl]
      exact c3_far N (mst s v) b off ac (ts.map Tree.kn) p m q V hVN hmm (kids_nums (KidsIs.below hV _ _ 0 hK)) e2 hu' hok (fun W => mul_mx p m q 2 W hq hx)
  · refine ⟨2, fun w h hsp hg _ hK => ?_⟩
    have hAr : ArgsAt w (some ⟨b, off, none⟩) (ts.map Tree.k) := kids_args hK
    rw [← e1]
    refine do_fail h hsp hg 32 (fun _ _ => by kernel_rfl) ⟨#[99, 109]⟩ data (some ⟨b, off, none⟩) ac (ts.map Tree.k) change_cm hAr (by omega) 2 (by decide) hks fun V N hV hN hVN => ?_
    rw [e1, hl]
    exact c3_bad N (mst s v) b off ac (ts.map Tree.kn) m V hVN hmm (kids_nums (KidsIs.below hV _ _ 0 hK)) e2 (by simpa using hok)
end
theorem nm_eq {nm : ByteArray} {a : Array UInt8} (h : nm.data.toList = a.toList) : nm = ⟨a⟩ := by
  obtain ⟨d⟩ := nm
  rw [show d = a from Array.toList_inj.1 h]
set_option maxRecDepth 100000 in
/-- Whatever operator is applied: a number and a machine. -/
theorem do_any (H x : Nat) (s : St) (v : Value) (ss : List St) (nm data : ByteArray) (ts : List Tree) (ra : Option Addr) (ac : Nat) (hm : ts.length ≤ maxLen) :
    DoesAt H x s v ss nm data ra ts.length ac (fun w => KidsIs w ra 0 ts) := by
  by_cases h0 : ts.length = 0 ∨ ∃ b off, ra = some ⟨b, off, none⟩
  case neg => exact ⟨0, fun w _ _ _ _ hK => absurd (Or.inr (by
    obtain ⟨b, off, e, _⟩ := kids_some hK (by omega)
    exact ⟨b, off, e⟩)) h0⟩
  have hsome : 0 < ts.length → ∃ b off, ra = some ⟨b, off, none⟩ := fun h => h0.resolve_left (by omega)
  by_cases hn : nm.data.toList ∈ opNames
  case neg => exact ⟨8, fun w h _ _ _ _ => do_else h nm data ra ac ts.length hn⟩
  have hm' : ts.length ≤ 9223372036854775807 := hm
  have e1 : (ts.map Tree.k).length = ts.length := List.length_map _
  have hkn : (ts.map Tree.k).length ≤ 9223372036854775807 := by rw [e1]; exact hm'
  simp only [opNames, List.mem_cons, List.not_mem_nil, or_false] at hn
  rcases hn with hn | hn | hn | hn | hn | hn | hn | hn | hn | hn | hn | hn | hn | hn | hn | hn | hn | hn | hn | hn | hn | hn | hn | hn
  · obtain rfl := nm_eq (a := #[113]) hn
    by_cases hks : chkOp [113] data.data.toList (ts.map Tree.k) = 0
    case neg =>
      refine ⟨chkOp [113] data.data.toList (ts.map Tree.k), fun w h hsp hg _ hK => ?_⟩
      rw [← e1]
      exact do_chk h hsp hg 28 ⟨#[113]⟩ data ra ac (ts.map Tree.k) change_q (kids_args hK) hkn hks
    have hlen := chk_len hks
    rw [e1] at hlen
    rw [takes_all.1] at hlen
    obtain rfl := List.eq_nil_of_length_eq_zero hlen
    exact do_q_any H x s v ss data ra ac _ hks
  · obtain rfl := nm_eq (a := #[81]) hn
    by_cases hks : chkOp [81] data.data.toList (ts.map Tree.k) = 0
    case neg =>
      refine ⟨chkOp [81] data.data.toList (ts.map Tree.k), fun w h hsp hg _ hK => ?_⟩
      rw [← e1]
      exact do_chk h hsp hg 30 ⟨#[81]⟩ data ra ac (ts.map Tree.k) change_Q (kids_args hK) hkn hks
    have hlen := chk_len hks
    rw [e1] at hlen
    rw [takes_all.2.1] at hlen
    obtain rfl := List.eq_nil_of_length_eq_zero hlen
    exact do_Q_any H x s v ss data ra ac _ hks
  · obtain rfl := nm_eq (a := #[99, 109]) hn
    by_cases hks : chkOp [99, 109] data.data.toList (ts.map Tree.k) = 0
    case neg =>
      refine ⟨chkOp [99, 109] data.data.toList (ts.map Tree.k), fun w h hsp hg _ hK => ?_⟩
      rw [← e1]
      exact do_chk h hsp hg 32 ⟨#[99, 109]⟩ data ra ac (ts.map Tree.k) change_cm (kids_args hK) hkn hks
    have hlen := chk_len hks
    rw [e1] at hlen
    rw [takes_all.2.2.1] at hlen
    obtain ⟨b, off, rfl⟩ := hsome (by omega)
    exact do_cm_any H x s v ss data b off ac ts hlen hks
  · obtain rfl := nm_eq (a := #[119]) hn
    by_cases hks : chkOp [119] data.data.toList (ts.map Tree.k) = 0
    case neg =>
      refine ⟨chkOp [119] data.data.toList (ts.map Tree.k), fun w h hsp hg _ hK => ?_⟩
      rw [← e1]
      exact do_chk h hsp hg 36 ⟨#[119]⟩ data ra ac (ts.map Tree.k) change_w (kids_args hK) hkn hks
    have hlen := chk_len hks
    rw [e1] at hlen
    rw [takes_all.2.2.2.1] at hlen
    obtain ⟨b, off, rfl⟩ := hsome (by omega)
    match ts, hlen with
    | [t], _ => exact do_w_any H x s v ss data b off ac t hks
  · obtain rfl := nm_eq (a := #[77]) hn
    by_cases hks : chkOp [77] data.data.toList (ts.map Tree.k) = 0
    case neg =>
      refine ⟨chkOp [77] data.data.toList (ts.map Tree.k), fun w h hsp hg _ hK => ?_⟩
      rw [← e1]
      exact do_chk h hsp hg 38 ⟨#[77]⟩ data ra ac (ts.map Tree.k) change_M (kids_args hK) hkn hks
    have hlen := chk_len hks
    rw [e1] at hlen
    rw [takes_all.2.2.2.2.1] at hlen
    obtain ⟨b, off, rfl⟩ := hsome (by omega)
    match ts, hlen with
    | [t], _ => exact do_M_any H x s v ss data b off ac t hks
  · obtain rfl := nm_eq (a := #[74]) hn
    by_cases hks : chkOp [74] data.data.toList (ts.map Tree.k) = 0
    case neg =>
      refine ⟨chkOp [74] data.data.toList (ts.map Tree.k), fun w h hsp hg _ hK => ?_⟩
      rw [← e1]
      exact do_chk h hsp hg 39 ⟨#[74]⟩ data ra ac (ts.map Tree.k) change_J (kids_args hK) hkn hks
    have hlen := chk_len hks
    rw [e1] at hlen
    rw [takes_all.2.2.2.2.2.1] at hlen
    obtain ⟨b, off, rfl⟩ := hsome (by omega)
    match ts, hlen with
    | [t], _ => exact do_J_any H x s v ss data b off ac t hks
  · obtain rfl := nm_eq (a := #[106]) hn
    by_cases hks : chkOp [106] data.data.toList (ts.map Tree.k) = 0
    case neg =>
      refine ⟨chkOp [106] data.data.toList (ts.map Tree.k), fun w h hsp hg _ hK => ?_⟩
      rw [← e1]
      exact do_chk h hsp hg 41 ⟨#[106]⟩ data ra ac (ts.map Tree.k) change_j (kids_args hK) hkn hks
    have hlen := chk_len hks
    rw [e1] at hlen
    rw [takes_all.2.2.2.2.2.2.1] at hlen
    obtain ⟨b, off, rfl⟩ := hsome (by omega)
    match ts, hlen with
    | [t], _ => exact do_j_any H x s v ss data b off ac t hks
  · obtain rfl := nm_eq (a := #[100]) hn
    by_cases hks : chkOp [100] data.data.toList (ts.map Tree.k) = 0
    case neg =>
      refine ⟨chkOp [100] data.data.toList (ts.map Tree.k), fun w h hsp hg _ hK => ?_⟩
      rw [← e1]
      exact do_chk h hsp hg 42 ⟨#[100]⟩ data ra ac (ts.map Tree.k) change_d (kids_args hK) hkn hks
    have hlen := chk_len hks
    rw [e1] at hlen
    rw [takes_all.2.2.2.2.2.2.2.1] at hlen
    obtain ⟨b, off, rfl⟩ := hsome (by omega)
    match ts, hlen with
    | [t, u], _ => exact do_d_any H x s v ss data b off ac t u hks
  · obtain rfl := nm_eq (a := #[105]) hn
    by_cases hks : chkOp [105] data.data.toList (ts.map Tree.k) = 0
    case neg =>
      refine ⟨chkOp [105] data.data.toList (ts.map Tree.k), fun w h hsp hg _ hK => ?_⟩
      rw [← e1]
      exact do_chk h hsp hg 44 ⟨#[105]⟩ data ra ac (ts.map Tree.k) change_i (kids_args hK) hkn hks
    obtain ⟨c, hc⟩ := do_i_any H x s v ss data ac ra _ hkn hks
    refine ⟨c, fun w h hsp hg hH hK => ?_⟩
    rw [← e1]
    exact hc w h hsp hg hH (kids_args hK)
  · obtain rfl := nm_eq (a := #[114, 105]) hn
    by_cases hks : chkOp [114, 105] data.data.toList (ts.map Tree.k) = 0
    case neg =>
      refine ⟨chkOp [114, 105] data.data.toList (ts.map Tree.k), fun w h hsp hg _ hK => ?_⟩
      rw [← e1]
      exact do_chk h hsp hg 44 ⟨#[114, 105]⟩ data ra ac (ts.map Tree.k) change_ri (kids_args hK) hkn hks
    obtain ⟨c, hc⟩ := do_ri_any H x s v ss data ac ra _ hkn hks
    refine ⟨c, fun w h hsp hg hH hK => ?_⟩
    rw [← e1]
    exact hc w h hsp hg hH (kids_args hK)
  · obtain rfl := nm_eq (a := #[103, 115]) hn
    by_cases hks : chkOp [103, 115] data.data.toList (ts.map Tree.k) = 0
    case neg =>
      refine ⟨chkOp [103, 115] data.data.toList (ts.map Tree.k), fun w h hsp hg _ hK => ?_⟩
      rw [← e1]
      exact do_chk h hsp hg 44 ⟨#[103, 115]⟩ data ra ac (ts.map Tree.k) change_gs (kids_args hK) hkn hks
    obtain ⟨c, hc⟩ := do_gs_any H x s v ss data ac ra _ hkn hks
    refine ⟨c, fun w h hsp hg hH hK => ?_⟩
    rw [← e1]
    exact hc w h hsp hg hH (kids_args hK)
  · obtain rfl := nm_eq (a := #[103]) hn
    by_cases hks : chkOp [103] data.data.toList (ts.map Tree.k) = 0
    case neg =>
      refine ⟨chkOp [103] data.data.toList (ts.map Tree.k), fun w h hsp hg _ hK => ?_⟩
      rw [← e1]
      exact do_chk h hsp hg 45 ⟨#[103]⟩ data ra ac (ts.map Tree.k) change_g (kids_args hK) hkn hks
    have hlen := chk_len hks
    rw [e1] at hlen
    rw [takes_all.2.2.2.2.2.2.2.2.1] at hlen
    obtain ⟨b, off, rfl⟩ := hsome (by omega)
    exact do_g_any H x s v ss data b off ac ts (by omega) hks
  · obtain rfl := nm_eq (a := #[71]) hn
    by_cases hks : chkOp [71] data.data.toList (ts.map Tree.k) = 0
    case neg =>
      refine ⟨chkOp [71] data.data.toList (ts.map Tree.k), fun w h hsp hg _ hK => ?_⟩
      rw [← e1]
      exact do_chk h hsp hg 47 ⟨#[71]⟩ data ra ac (ts.map Tree.k) change_G (kids_args hK) hkn hks
    have hlen := chk_len hks
    rw [e1] at hlen
    rw [takes_all.2.2.2.2.2.2.2.2.2.1] at hlen
    obtain ⟨b, off, rfl⟩ := hsome (by omega)
    exact do_G_any H x s v ss data b off ac ts (by omega) hks
  · obtain rfl := nm_eq (a := #[114, 103]) hn
    by_cases hks : chkOp [114, 103] data.data.toList (ts.map Tree.k) = 0
    case neg =>
      refine ⟨chkOp [114, 103] data.data.toList (ts.map Tree.k), fun w h hsp hg _ hK => ?_⟩
      rw [← e1]
      exact do_chk h hsp hg 48 ⟨#[114, 103]⟩ data ra ac (ts.map Tree.k) change_rg (kids_args hK) hkn hks
    have hlen := chk_len hks
    rw [e1] at hlen
    rw [takes_all.2.2.2.2.2.2.2.2.2.2.1] at hlen
    obtain ⟨b, off, rfl⟩ := hsome (by omega)
    exact do_rg_any H x s v ss data b off ac ts (by omega) hks
  · obtain rfl := nm_eq (a := #[82, 71]) hn
    by_cases hks : chkOp [82, 71] data.data.toList (ts.map Tree.k) = 0
    case neg =>
      refine ⟨chkOp [82, 71] data.data.toList (ts.map Tree.k), fun w h hsp hg _ hK => ?_⟩
      rw [← e1]
      exact do_chk h hsp hg 49 ⟨#[82, 71]⟩ data ra ac (ts.map Tree.k) change_RG (kids_args hK) hkn hks
    have hlen := chk_len hks
    rw [e1] at hlen
    rw [takes_all.2.2.2.2.2.2.2.2.2.2.2.1] at hlen
    obtain ⟨b, off, rfl⟩ := hsome (by omega)
    exact do_RG_any H x s v ss data b off ac ts (by omega) hks
  · obtain rfl := nm_eq (a := #[107]) hn
    by_cases hks : chkOp [107] data.data.toList (ts.map Tree.k) = 0
    case neg =>
      refine ⟨chkOp [107] data.data.toList (ts.map Tree.k), fun w h hsp hg _ hK => ?_⟩
      rw [← e1]
      exact do_chk h hsp hg 50 ⟨#[107]⟩ data ra ac (ts.map Tree.k) change_k (kids_args hK) hkn hks
    have hlen := chk_len hks
    rw [e1] at hlen
    rw [takes_all.2.2.2.2.2.2.2.2.2.2.2.2.1] at hlen
    obtain ⟨b, off, rfl⟩ := hsome (by omega)
    exact do_k_any H x s v ss data b off ac ts (by omega) hks
  · obtain rfl := nm_eq (a := #[75]) hn
    by_cases hks : chkOp [75] data.data.toList (ts.map Tree.k) = 0
    case neg =>
      refine ⟨chkOp [75] data.data.toList (ts.map Tree.k), fun w h hsp hg _ hK => ?_⟩
      rw [← e1]
      exact do_chk h hsp hg 51 ⟨#[75]⟩ data ra ac (ts.map Tree.k) change_K (kids_args hK) hkn hks
    have hlen := chk_len hks
    rw [e1] at hlen
    rw [takes_all.2.2.2.2.2.2.2.2.2.2.2.2.2.1] at hlen
    obtain ⟨b, off, rfl⟩ := hsome (by omega)
    exact do_K_any H x s v ss data b off ac ts (by omega) hks
  · obtain rfl := nm_eq (a := #[84, 99]) hn
    by_cases hks : chkOp [84, 99] data.data.toList (ts.map Tree.k) = 0
    case neg =>
      refine ⟨chkOp [84, 99] data.data.toList (ts.map Tree.k), fun w h hsp hg _ hK => ?_⟩
      rw [← e1]
      exact do_chk h hsp hg 66 ⟨#[84, 99]⟩ data ra ac (ts.map Tree.k) change_Tc (kids_args hK) hkn hks
    have hlen := chk_len hks
    rw [e1] at hlen
    rw [takes_all.2.2.2.2.2.2.2.2.2.2.2.2.2.2.1] at hlen
    obtain ⟨b, off, rfl⟩ := hsome (by omega)
    match ts, hlen with
    | [t], _ => exact do_Tc_any H x s v ss data b off ac t hks
  · obtain rfl := nm_eq (a := #[84, 119]) hn
    by_cases hks : chkOp [84, 119] data.data.toList (ts.map Tree.k) = 0
    case neg =>
      refine ⟨chkOp [84, 119] data.data.toList (ts.map Tree.k), fun w h hsp hg _ hK => ?_⟩
      rw [← e1]
      exact do_chk h hsp hg 67 ⟨#[84, 119]⟩ data ra ac (ts.map Tree.k) change_Tw (kids_args hK) hkn hks
    have hlen := chk_len hks
    rw [e1] at hlen
    rw [takes_all.2.2.2.2.2.2.2.2.2.2.2.2.2.2.2.1] at hlen
    obtain ⟨b, off, rfl⟩ := hsome (by omega)
    match ts, hlen with
    | [t], _ => exact do_Tw_any H x s v ss data b off ac t hks
  · obtain rfl := nm_eq (a := #[84, 122]) hn
    by_cases hks : chkOp [84, 122] data.data.toList (ts.map Tree.k) = 0
    case neg =>
      refine ⟨chkOp [84, 122] data.data.toList (ts.map Tree.k), fun w h hsp hg _ hK => ?_⟩
      rw [← e1]
      exact do_chk h hsp hg 68 ⟨#[84, 122]⟩ data ra ac (ts.map Tree.k) change_Tz (kids_args hK) hkn hks
    have hlen := chk_len hks
    rw [e1] at hlen
    rw [takes_all.2.2.2.2.2.2.2.2.2.2.2.2.2.2.2.2.1] at hlen
    obtain ⟨b, off, rfl⟩ := hsome (by omega)
    match ts, hlen with
    | [t], _ => exact do_Tz_any H x s v ss data b off ac t hks
  · obtain rfl := nm_eq (a := #[84, 76]) hn
    by_cases hks : chkOp [84, 76] data.data.toList (ts.map Tree.k) = 0
    case neg =>
      refine ⟨chkOp [84, 76] data.data.toList (ts.map Tree.k), fun w h hsp hg _ hK => ?_⟩
      rw [← e1]
      exact do_chk h hsp hg 69 ⟨#[84, 76]⟩ data ra ac (ts.map Tree.k) change_TL (kids_args hK) hkn hks
    have hlen := chk_len hks
    rw [e1] at hlen
    rw [takes_all.2.2.2.2.2.2.2.2.2.2.2.2.2.2.2.2.2.1] at hlen
    obtain ⟨b, off, rfl⟩ := hsome (by omega)
    match ts, hlen with
    | [t], _ => exact do_TL_any H x s v ss data b off ac t hks
  · obtain rfl := nm_eq (a := #[84, 115]) hn
    by_cases hks : chkOp [84, 115] data.data.toList (ts.map Tree.k) = 0
    case neg =>
      refine ⟨chkOp [84, 115] data.data.toList (ts.map Tree.k), fun w h hsp hg _ hK => ?_⟩
      rw [← e1]
      exact do_chk h hsp hg 70 ⟨#[84, 115]⟩ data ra ac (ts.map Tree.k) change_Ts (kids_args hK) hkn hks
    have hlen := chk_len hks
    rw [e1] at hlen
    rw [takes_all.2.2.2.2.2.2.2.2.2.2.2.2.2.2.2.2.2.2.1] at hlen
    obtain ⟨b, off, rfl⟩ := hsome (by omega)
    match ts, hlen with
    | [t], _ => exact do_Ts_any H x s v ss data b off ac t hks
  · obtain rfl := nm_eq (a := #[84, 102]) hn
    by_cases hks : chkOp [84, 102] data.data.toList (ts.map Tree.k) = 0
    case neg =>
      refine ⟨chkOp [84, 102] data.data.toList (ts.map Tree.k), fun w h hsp hg _ hK => ?_⟩
      rw [← e1]
      exact do_chk h hsp hg 71 ⟨#[84, 102]⟩ data ra ac (ts.map Tree.k) change_Tf (kids_args hK) hkn hks
    have hlen := chk_len hks
    rw [e1] at hlen
    rw [takes_all.2.2.2.2.2.2.2.2.2.2.2.2.2.2.2.2.2.2.2.1] at hlen
    obtain ⟨b, off, rfl⟩ := hsome (by omega)
    match ts, hlen with
    | [t, u], _ => exact do_Tf_any H x s v ss data b off ac t u hks
  · obtain rfl := nm_eq (a := #[84, 114]) hn
    by_cases hks : chkOp [84, 114] data.data.toList (ts.map Tree.k) = 0
    case neg =>
      refine ⟨chkOp [84, 114] data.data.toList (ts.map Tree.k), fun w h hsp hg _ hK => ?_⟩
      rw [← e1]
      exact do_chk h hsp hg 72 ⟨#[84, 114]⟩ data ra ac (ts.map Tree.k) change_Tr (kids_args hK) hkn hks
    have hlen := chk_len hks
    rw [e1] at hlen
    rw [takes_all.2.2.2.2.2.2.2.2.2.2.2.2.2.2.2.2.2.2.2.2] at hlen
    obtain ⟨b, off, rfl⟩ := hsome (by omega)
    match ts, hlen with
    | [t], _ => exact do_Tr_any H x s v ss data b off ac t hks
end Go.Proofs.YtbagmjedkcipgaaDoor
