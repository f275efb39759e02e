/-
  predict: single bytes: away, Paeth, the row filters, at, beside; the document's far, Paeth, at, off.
-/
import Derived.Test.YticliemmplefoaaPrdMath
import Derived.Test.YticliemmplefoaaGive
import Derived.Test.YticliemmplefoaaOctA
import Derived.Test.YticliemmplefoaaTwo
import Derived.Test.YticliemmplefoaaRowEnd
namespace Go.Proofs.Yticliemmplefoaa
open Go.RowKit Oct Prd

/-- Seven facts of a byte as a number. -/
theorem byteR (a : UInt8) : 0 ≤ (a.toNat : Int) ∧ (a.toNat : Int) < 256 := by have := a.toNat_lt; omega
theorem awayI_le (g : Int) (v : UInt8) (h : -1000 ≤ g ∧ g ≤ 1000) : awayI g v ≤ 2000 := by unfold awayI; have := byteR v; omega

set_option maxRecDepth 100000 in
theorem away_any (g : Int) (v : UInt8) (w : World) (h : -1000 ≤ g ∧ g ≤ 1000) :
    Calls Try.prog 19 #[.int .i64 g, .int .u8 (v.toNat : Int)] w fun e w' => e = .returned (.int .i64 (awayI g v)) ∧ w = w' := by
  obtain ⟨h1, h2⟩ := h
  obtain ⟨v1, v2⟩ := byteR v
  have HA := Lib.hid (show awayI g v = max (g - (v.toNat : Int)) ((v.toNat : Int) - g) from rfl)
  go_enter Try.func19, Try.ntmps19
  go_wp2_with fail
  · go_ret
    exact ⟨by rw [HA.out, show max (g - (v.toNat : Int)) ((v.toNat : Int) - g) = (v.toNat : Int) - g by omega]; rfl, rfl⟩
  · go_ret
    exact ⟨by rw [HA.out, show max (g - (v.toNat : Int)) ((v.toNat : Int) - g) = g - (v.toNat : Int) by omega]; rfl, rfl⟩
/-- Paeth's loop behind k rounds: n is the nearest so far. -/
def PaethAt (g : Int) (a b p : UInt8) (k : Nat) (n : UInt8) : Prop := (k = 0 ∧ n = a) ∨ (k = 1 ∧ n = nearer g a b) ∨ (k = 2 ∧ n = p)
set_option maxRecDepth 100000 in
set_option maxHeartbeats 1000000 in
theorem paeth_any (a b c : UInt8) (w : World) :
    Calls Try.prog 8 #[.int .u8 (a.toNat : Int), .int .u8 (b.toNat : Int), .int .u8 (c.toNat : Int)] w fun e w' => e = .returned (.int .u8 ((paethF a b c).toNat : Int)) ∧ w = w' := by
  obtain ⟨a1, a2⟩ := byteR a
  obtain ⟨b1, b2⟩ := byteR b
  obtain ⟨c1, c2⟩ := byteR c
  obtain ⟨p, hp⟩ : ∃ p, paethF a b c = p := ⟨_, rfl⟩
  rw [hp]
  obtain ⟨g, hg⟩ : ∃ g, (a.toNat : Int) + b.toNat - c.toNat = g := ⟨_, rfl⟩
  have hgb : -1000 ≤ g ∧ g ≤ 1000 := by omega
  have h2 := paeth_two a b c
  rw [hg, hp] at h2
  have HP := Lib.hid h2
  have hx0 : ∀ (w : World), (Instr.index 40 (.agg #[.int .u8 (b.toNat : Int), .int .u8 (c.toNat : Int)]) (.int .i64 0)).run Try.prog w = .ok (.int .u8 (b.toNat : Int)) w := fun _ => by kernel_rfl
  have hx1 : ∀ (w : World), (Instr.index 40 (.agg #[.int .u8 (b.toNat : Int), .int .u8 (c.toNat : Int)]) (.int .i64 1)).run Try.prog w = .ok (.int .u8 (c.toNat : Int)) w := fun _ => by kernel_rfl
  have HG := Lib.hid hgb
  clear h2 hp hgb
  go_enter Try.func8, Try.ntmps8
  go_wp2_with fail
  go_loopw [8, 23] (fun m i wr => ∃ (k : Nat) (n : UInt8), i = .int .i64 (k : Int) ∧ m = .int .u8 (n.toNat : Int) ∧ Hid (PaethAt g a b p k n) ∧ wr = w) (fun _ i _ => 2 - (intOf i).toNat)
  case atStart => exact ⟨0, a, rfl, rfl, Lib.hid (.inl ⟨rfl, rfl⟩), rfl⟩
  case round =>
    obtain ⟨k, n, rfl, rfl, HK, rfl⟩ := hrel
    have step : ∀ (v : UInt8) (m : UInt8) (j : Nat), j < 2 → ((j + 1 = 1 ∧ nearer g m v = nearer g a b) ∨ (j + 1 = 2 ∧ nearer g m v = p)) → ∀ q : UInt8, q = nearer g m v → Hid (PaethAt g a b p (j + 1) q) := fun v m j hj h q hq => Lib.hid (by
      rcases h with ⟨h1, h2⟩ | ⟨h1, h2⟩
      · exact .inr (.inl ⟨h1, hq.trans h2⟩)
      · exact .inr (.inr ⟨h1, hq.trans h2⟩))
    have HS := Lib.hid step
    clear step
    rcases HK.out with ⟨rfl, rfl⟩ | ⟨rfl, rfl⟩ | ⟨rfl, rfl⟩
    · obtain ⟨x, hx⟩ : ∃ x, awayI g b = x := ⟨_, rfl⟩
      obtain ⟨y, hy⟩ : ∃ y, awayI g n = y := ⟨_, rfl⟩
      have HB := Lib.hid (fun W : World => away_any g b W HG.out)
      have HA := Lib.hid (fun W : World => away_any g n W HG.out)
      rw [hx] at HB
      rw [hy] at HA
      by_cases hlt : x < y
      · have HQ := HS.out b n 0 (by omega) (.inl ⟨rfl, rfl⟩) b (by unfold nearer; rw [if_pos (by rw [hx, hy]; exact hlt)])
        clear hx hy hg
        go_wp2_with fail
        refine (HB.out _).mono ?_
        rintro e w1 ⟨rfl, rfl⟩
        go_wp2_with fail
        refine (HA.out _).mono ?_
        rintro e w1 ⟨rfl, rfl⟩
        go_wp2_with fail
        go_roundw
        case rel => exact ⟨1, b, rfl, rfl, HQ, trivial⟩
        case measure => simp [intOf]
      · have HQ := HS.out b n 0 (by omega) (.inl ⟨rfl, rfl⟩) n (by unfold nearer; rw [if_neg (by rw [hx, hy]; exact hlt)])
        clear hx hy hg
        go_wp2_with fail
        refine (HB.out _).mono ?_
        rintro e w1 ⟨rfl, rfl⟩
        go_wp2_with fail
        refine (HA.out _).mono ?_
        rintro e w1 ⟨rfl, rfl⟩
        go_wp2_with fail
        go_roundw
        case rel => exact ⟨1, n, rfl, rfl, HQ, trivial⟩
        case measure => simp [intOf]
    · obtain ⟨m, hm⟩ : ∃ m, nearer g a b = m := ⟨_, rfl⟩
      rw [hm]
      obtain ⟨x, hx⟩ : ∃ x, awayI g c = x := ⟨_, rfl⟩
      obtain ⟨y, hy⟩ : ∃ y, awayI g m = y := ⟨_, rfl⟩
      have HB := Lib.hid (fun W : World => away_any g c W HG.out)
      have HA := Lib.hid (fun W : World => away_any g m W HG.out)
      rw [hx] at HB
      rw [hy] at HA
      have hp2 := HP.out
      rw [hm] at hp2
      by_cases hlt : x < y
      · have HQ := HS.out c m 1 (by omega) (.inr ⟨rfl, hp2⟩) c (by unfold nearer; rw [if_pos (by rw [hx, hy]; exact hlt)])
        clear hx hy hg hm hp2
        go_wp2_with fail
        refine (HB.out _).mono ?_
        rintro e w1 ⟨rfl, rfl⟩
        go_wp2_with fail
        refine (HA.out _).mono ?_
        rintro e w1 ⟨rfl, rfl⟩
        go_wp2_with fail
        go_roundw
        case rel => exact ⟨2, c, rfl, rfl, HQ, trivial⟩
        case measure => simp [intOf]
      · have HQ := HS.out c m 1 (by omega) (.inr ⟨rfl, hp2⟩) m (by unfold nearer; rw [if_neg (by rw [hx, hy]; exact hlt)])
        clear hx hy hg hm hp2
        go_wp2_with fail
        refine (HB.out _).mono ?_
        rintro e w1 ⟨rfl, rfl⟩
        go_wp2_with fail
        refine (HA.out _).mono ?_
        rintro e w1 ⟨rfl, rfl⟩
        go_wp2_with fail
        go_roundw
        case rel => exact ⟨2, m, rfl, rfl, HQ, trivial⟩
        case measure => simp [intOf]
    · clear hg
      go_wp2_with fail
      go_ret
      exact ⟨rfl, rfl⟩

/-! ### The row filters. -/
theorem f1_any (a b c : UInt8) (w : World) : Calls Try.prog 31 #[.int .u8 (a.toNat : Int), .int .u8 (b.toNat : Int), .int .u8 (c.toNat : Int)] w fun e w' => e = .returned (.int .u8 ((offF 0 a b c).toNat : Int)) ∧ w = w' := by
  have hz : ((offF 0 a b c).toNat : Int) = 0 := rfl
  rw [hz]
  go_enter Try.func31, Try.ntmps31
  go_wp2_with fail
  go_ret
  exact ⟨rfl, rfl⟩
theorem f2_any (a b c : UInt8) (w : World) : Calls Try.prog 32 #[.int .u8 (a.toNat : Int), .int .u8 (b.toNat : Int), .int .u8 (c.toNat : Int)] w fun e w' => e = .returned (.int .u8 ((offF 1 a b c).toNat : Int)) ∧ w = w' := by
  show Calls Try.prog 32 #[.int .u8 (a.toNat : Int), .int .u8 (b.toNat : Int), .int .u8 (c.toNat : Int)] w fun e w' => e = .returned (.int .u8 (a.toNat : Int)) ∧ w = w'
  go_enter Try.func32, Try.ntmps32
  go_wp2_with fail
  go_ret
  exact ⟨rfl, rfl⟩
theorem f3_any (a b c : UInt8) (w : World) : Calls Try.prog 33 #[.int .u8 (a.toNat : Int), .int .u8 (b.toNat : Int), .int .u8 (c.toNat : Int)] w fun e w' => e = .returned (.int .u8 ((offF 2 a b c).toNat : Int)) ∧ w = w' := by
  show Calls Try.prog 33 #[.int .u8 (a.toNat : Int), .int .u8 (b.toNat : Int), .int .u8 (c.toNat : Int)] w fun e w' => e = .returned (.int .u8 (b.toNat : Int)) ∧ w = w'
  go_enter Try.func33, Try.ntmps33
  go_wp2_with fail
  go_ret
  exact ⟨rfl, rfl⟩
theorem half_conv (a b : UInt8) : IntKind.u8.wrap (((a.toNat : Int) + b.toNat) / 2) = ((offF 3 a b 0).toNat : Int) ∧ ((a.toNat : Int) + b.toNat).tdiv 2 = ((a.toNat : Int) + b.toNat) / 2 := by
  have := byteR a
  have := byteR b
  constructor
  · show (((a.toNat : Int) + b.toNat) / 2) % 256 = ((UInt8.ofNat ((a.toNat + b.toNat) / 2)).toNat : Int)
    rw [UInt8.toNat_ofNat']
    omega
  · exact Int.tdiv_eq_ediv_of_nonneg (by omega)
theorem f4_any (a b c : UInt8) (w : World) : Calls Try.prog 34 #[.int .u8 (a.toNat : Int), .int .u8 (b.toNat : Int), .int .u8 (c.toNat : Int)] w fun e w' => e = .returned (.int .u8 ((offF 3 a b c).toNat : Int)) ∧ w = w' := by
  obtain ⟨h1, h2⟩ := half_conv a b
  obtain ⟨p, hp⟩ : ∃ p : UInt8, offF 3 a b 0 = p := ⟨_, rfl⟩
  rw [hp] at h1
  have hp2 : offF 3 a b c = p := hp
  rw [hp2]
  obtain ⟨a1, a2⟩ := byteR a
  obtain ⟨b1, b2⟩ := byteR b
  have H1 := Lib.hid h1
  clear hp hp2
  go_enter Try.func34, Try.ntmps34
  go_wp2_with fail
  go_ret
  exact ⟨rfl, rfl⟩
theorem f5_any (a b c : UInt8) (w : World) : Calls Try.prog 8 #[.int .u8 (a.toNat : Int), .int .u8 (b.toNat : Int), .int .u8 (c.toNat : Int)] w fun e w' => e = .returned (.int .u8 ((offF 4 a b c).toNat : Int)) ∧ w = w' := paeth_any a b c w
/-- Function F subtracts what the filter of this tag does. -/
def FilterIs (F : FuncId) (tag : Nat) : Prop := (∀ (args : Array Value) (W : World), (callFunc F args).run Try.prog W = .ok (.enter F args) W) ∧
  ∀ (a b c : UInt8) (w : World), Calls Try.prog F #[.int .u8 (a.toNat : Int), .int .u8 (b.toNat : Int), .int .u8 (c.toNat : Int)] w fun e w' => e = .returned (.int .u8 ((offF tag a b c).toNat : Int)) ∧ w = w'
/-- The function of a tag. -/
def filN (tag : Nat) : FuncId := match tag with | 0 => 31 | 1 => 32 | 2 => 33 | 3 => 34 | _ => 8
theorem filN_is (tag : Nat) (h : tag < 5) : FilterIs (filN tag) tag := by
  rcases tag with _ | _ | _ | _ | _ | tag
  · exact ⟨fun _ _ => by kernel_rfl, f1_any⟩
  · exact ⟨fun _ _ => by kernel_rfl, f2_any⟩
  · exact ⟨fun _ _ => by kernel_rfl, f3_any⟩
  · exact ⟨fun _ _ => by kernel_rfl, f4_any⟩
  · exact ⟨fun _ _ => by kernel_rfl, f5_any⟩
  · omega

/-! ### The document's Paeth. -/
end Go.Proofs.Yticliemmplefoaa
