/-
  ascii's Hex and digitsOf.
-/
import Derived.Test.YthioafndepkhoaaAscJ
import Derived.Test.YthioafndepkhoaaOctEc
namespace Go.Proofs.Ythioafndepkhoaa
open Go.RowKit Oct Asc Go.Shelf

set_option maxHeartbeats 1000000 in
theorem aschex_any (s : ByteArray) (w : World) (hs : s.size ≤ 4000000) :
    Calls Try.prog 11 #[.string s] w fun e w' => e = .returned (.string (hexB s ++ ⟨#[62]⟩)) ∧ Below w.heap.size w w' := by
  obtain ⟨X, hX⟩ : ∃ X, hexB s = X := ⟨_, rfl⟩
  have hXs : X.size ≤ 8000000 := by
    have : X.data.toList = hexS s.data.toList := by rw [← hX]; rfl
    have e : X.size = X.data.toList.length := by simp
    have e2 : s.data.toList.length = s.size := by simp
    rw [e, this, hexS_length, e2]
    omega
  have HC := Lib.hid (fun W : World => hX ▸ hex_any s W (by omega))
  rw [hX]
  clear hX
  go_enter Try.func11, Try.ntmps11
  go_wp2_with fail
  refine (HC.out _).mono ?_
  rintro e w' ⟨rfl, hb⟩
  go_wp2_with fail
  go_ret
  exact ⟨rfl, hb⟩

def arr4 (l : List UInt8) : Value := .agg (cellsOf l).toArray
theorem val4_len (a b c d : UInt8) : val4 [a, b, c, d] = ((a.toNat * 256 + b.toNat) * 256 + c.toNat) * 256 + d.toNat := val4_four a b c d []
def v4 (l : List UInt8) : Nat := l.foldl (fun (n : Nat) (d : UInt8) => 256 * n + d.toNat) 0
theorem v4_more (l : List UInt8) (k : Nat) (h : k < l.length) : v4 (l.take (k + 1)) = 256 * v4 (l.take k) + l[k].toNat := by
  unfold v4
  rw [take_more h, List.foldl_append]
  rfl

/-- The digits, so far: from behind. -/
def dgCells (n k : Nat) : Array Value := (cellsOf (List.replicate (5 - k) 0 ++ (digs0 n).drop (5 - k))).toArray
set_option maxRecDepth 100000 in
set_option maxHeartbeats 4000000 in
theorem digitsOf_in (a b c d : UInt8) (n : Nat) (w : World) (hn : v4 [a, b, c, d] = n) :
    Calls Try.prog 28 #[arr4 [a, b, c, d]] w fun e w' => ∃ k, w.heap.size ≤ k ∧ e = .returned (.slice (some ⟨k, 0, none⟩) 5 5) ∧ Blk w' k 50 (cellsOf (digs0 n)).toArray ∧ Below w.heap.size w w' := by
  have HN := Lib.hid hn
  clear hn
  show Calls Try.prog 28 #[.agg #[.int .u8 (a.toNat : Int), .int .u8 (b.toNat : Int), .int .u8 (c.toNat : Int), .int .u8 (d.toNat : Int)]] w _
  have x0 : ∀ w, (Instr.index 37 (.agg #[.int .u8 (a.toNat : Int), .int .u8 (b.toNat : Int), .int .u8 (c.toNat : Int), .int .u8 (d.toNat : Int)]) (.int .i64 0)).run Try.prog w = .ok (.int .u8 (a.toNat : Int)) w := fun _ => by kernel_rfl
  have x1 : ∀ w, (Instr.index 37 (.agg #[.int .u8 (a.toNat : Int), .int .u8 (b.toNat : Int), .int .u8 (c.toNat : Int), .int .u8 (d.toNat : Int)]) (.int .i64 1)).run Try.prog w = .ok (.int .u8 (b.toNat : Int)) w := fun _ => by kernel_rfl
  have x2 : ∀ w, (Instr.index 37 (.agg #[.int .u8 (a.toNat : Int), .int .u8 (b.toNat : Int), .int .u8 (c.toNat : Int), .int .u8 (d.toNat : Int)]) (.int .i64 2)).run Try.prog w = .ok (.int .u8 (c.toNat : Int)) w := fun _ => by kernel_rfl
  have x3 : ∀ w, (Instr.index 37 (.agg #[.int .u8 (a.toNat : Int), .int .u8 (b.toNat : Int), .int .u8 (c.toNat : Int), .int .u8 (d.toNat : Int)]) (.int .i64 3)).run Try.prog w = .ok (.int .u8 (d.toNat : Int)) w := fun _ => by kernel_rfl
  have hb0 := Below.refl w.heap.size w
  go_enter Try.func28, Try.ntmps28
  go_wp2_with fail
  obtain ⟨W, hW⟩ : ∃ W, w.alloc (.cells #[.int .u8 (a.toNat : Int), .int .u8 (b.toNat : Int), .int .u8 (c.toNat : Int), .int .u8 (d.toNat : Int)] 37) = W := ⟨_, rfl⟩
  have HB := Lib.hid (show Below w.heap.size w W by rw [← hW]; exact hb0.alloc (Nat.le_refl _) _)
  have hWs : W.heap.size = w.heap.size + 1 := by rw [← hW]; exact World.size_alloc _ _
  have HWs := Lib.hid hWs
  rw [hW]
  clear hb0 hW hWs
  go_loopw [3, 9] (fun v i wr => ∃ k n1 : Nat, k ≤ 4 ∧ v = .int .u64 (n1 : Int) ∧ i = .int .i64 (k : Int) ∧ Hid (n1 = v4 ([a, b, c, d].take k)) ∧ n1 < 256 ^ k ∧ wr = W) (fun _ i _ => 4 - (intOf i).toNat)
  case atStart => exact ⟨0, 0, by omega, rfl, rfl, Lib.hid rfl, by omega, rfl⟩
  case round =>
    obtain ⟨k, n1, hk, rfl, rfl, HV, hb, rfl⟩ := hrel
    have hc : k = 0 ∨ k = 1 ∨ k = 2 ∨ k = 3 ∨ k = 4 := by omega
    have ha' : (a.toNat : Int) ≤ 255 := by have := a.toNat_lt; omega
    have hb' : (b.toNat : Int) ≤ 255 := by have := b.toNat_lt; omega
    have hc' : (c.toNat : Int) ≤ 255 := by have := c.toNat_lt; omega
    have hd' : (d.toNat : Int) ≤ 255 := by have := d.toNat_lt; omega
    rcases hc with rfl | rfl | rfl | rfl | rfl
    · go_wp2_with fail
      go_roundw
      case rel => exact ⟨1, 256 * n1 + a.toNat, by omega, by go_num, by go_num, Lib.hid (by rw [HV.out]; exact (v4_more [a, b, c, d] 0 (by simp)).symm), by omega, trivial⟩
      case measure => simp [intOf]
    · go_wp2_with fail
      go_roundw
      case rel => exact ⟨2, 256 * n1 + b.toNat, by omega, by go_num, by go_num, Lib.hid (by rw [HV.out]; exact (v4_more [a, b, c, d] 1 (by simp)).symm), by omega, trivial⟩
      case measure => simp [intOf]
    · go_wp2_with fail
      go_roundw
      case rel => exact ⟨3, 256 * n1 + c.toNat, by omega, by go_num, by go_num, Lib.hid (by rw [HV.out]; exact (v4_more [a, b, c, d] 2 (by simp)).symm), by omega, trivial⟩
      case measure => simp [intOf]
    · go_wp2_with fail
      go_roundw
      case rel => exact ⟨4, 256 * n1 + d.toNat, by omega, by go_num, by go_num, Lib.hid (by rw [HV.out]; exact (v4_more [a, b, c, d] 3 (by simp)).symm), by omega, trivial⟩
      case measure => simp [intOf]
    · obtain rfl : n1 = n := by rw [HV.out]; exact HN.out
      have hn : n1 < 4294967296 := hb
      clear hb
      go_wp2_with fail
      obtain ⟨V, hV⟩ : ∃ V, wr.alloc (.cells #[.int .u8 0, .int .u8 0, .int .u8 0, .int .u8 0, .int .u8 0] 50) = V := ⟨_, rfl⟩
      have hX : Blk V wr.heap.size 50 (dgCells n1 0) := by rw [← hV]; exact Blk.new wr _ _
      have hB2 : Below w.heap.size w V := by rw [← hV]; exact HB.out.alloc (by have := HB.out.size; exact this) _
      have HX := Lib.hid hX
      have HB2 := Lib.hid hB2
      have HKs := Lib.hid HB.out.size
      rw [hV]
      obtain ⟨K, hK⟩ : ∃ K, wr.heap.size = K := ⟨_, rfl⟩
      rw [hK] at HX HKs ⊢
      clear hV hX hB2 hK
      go_loopw [3, 18] (fun v i wr => ∃ k n2 : Nat, k ≤ 5 ∧ v = .int .u64 (n2 : Int) ∧ i = .int .i64 (k : Int) ∧ Hid (n2 = n1 / 85 ^ k) ∧ n2 < 4294967296 ∧ Hid (Blk wr K 50 (dgCells n1 k)) ∧ Hid (Below w.heap.size w wr)) (fun _ i _ => 5 - (intOf i).toNat)
      case atStart => exact ⟨0, n1, by omega, rfl, rfl, Lib.hid (by simp), hn, HX, HB2⟩
      case round =>
        clear HX HB2
        obtain ⟨k, n2, hk, rfl, rfl, HD, hn2, HX, HB2⟩ := hrel
        have hc : k = 0 ∨ k = 1 ∨ k = 2 ∨ k = 3 ∨ k = 4 ∨ k = 5 := by omega
        rcases hc with rfl | rfl | rfl | rfl | rfl | rfl
        · have c := HX.out.cell 4
          have f := HX.out.frozen 4
          have hd : ((UInt8.ofNat (n1 % 85)).toNat : Int) = (n2 : Int) % 85 := by rw [HD.out, UInt8.toNat_ofNat']; simp; omega
          have hX2 := HX.out.set_ 4 (.int .u8 ((n2 : Int) % 85))
          rw [← hd] at hX2
          have hX3 : Blk _ K 50 (dgCells n1 1) := hX2
          rw [hd] at hX3
          have HX3 := Lib.hid hX3
          have hc : wr.cell? ⟨K, 4, none⟩ = some (.int .u8 0) := c
          clear c hd hX2 hX3
          go_wp2_with fail
          go_roundw
          case rel => exact ⟨1, n2 / 85, by omega, by go_num, by go_num, Lib.hid (by rw [HD.out, Nat.div_div_eq_div_mul]), by omega, HX3, Lib.hid (set_low HB2.out HKs.out _ _)⟩
          case measure => simp [intOf]
        · have c := HX.out.cell 3
          have f := HX.out.frozen 3
          have hd : ((UInt8.ofNat (n1 / 85 % 85)).toNat : Int) = (n2 : Int) % 85 := by rw [HD.out, UInt8.toNat_ofNat']; simp; omega
          have hX2 := HX.out.set_ 3 (.int .u8 ((n2 : Int) % 85))
          rw [← hd] at hX2
          have hX3 : Blk _ K 50 (dgCells n1 2) := hX2
          rw [hd] at hX3
          have HX3 := Lib.hid hX3
          have hc : wr.cell? ⟨K, 3, none⟩ = some (.int .u8 0) := c
          clear c hd hX2 hX3
          go_wp2_with fail
          go_roundw
          case rel => exact ⟨2, n2 / 85, by omega, by go_num, by go_num, Lib.hid (by rw [HD.out, Nat.div_div_eq_div_mul]), by omega, HX3, Lib.hid (set_low HB2.out HKs.out _ _)⟩
          case measure => simp [intOf]
        · have c := HX.out.cell 2
          have f := HX.out.frozen 2
          have hd : ((UInt8.ofNat (n1 / 7225 % 85)).toNat : Int) = (n2 : Int) % 85 := by rw [HD.out, UInt8.toNat_ofNat']; simp; omega
          have hX2 := HX.out.set_ 2 (.int .u8 ((n2 : Int) % 85))
          rw [← hd] at hX2
          have hX3 : Blk _ K 50 (dgCells n1 3) := hX2
          rw [hd] at hX3
          have HX3 := Lib.hid hX3
          have hc : wr.cell? ⟨K, 2, none⟩ = some (.int .u8 0) := c
          clear c hd hX2 hX3
          go_wp2_with fail
          go_roundw
          case rel => exact ⟨3, n2 / 85, by omega, by go_num, by go_num, Lib.hid (by rw [HD.out, Nat.div_div_eq_div_mul]), by omega, HX3, Lib.hid (set_low HB2.out HKs.out _ _)⟩
          case measure => simp [intOf]
        · have c := HX.out.cell 1
          have f := HX.out.frozen 1
          have hd : ((UInt8.ofNat (n1 / 614125 % 85)).toNat : Int) = (n2 : Int) % 85 := by rw [HD.out, UInt8.toNat_ofNat']; simp; omega
          have hX2 := HX.out.set_ 1 (.int .u8 ((n2 : Int) % 85))
          rw [← hd] at hX2
          have hX3 : Blk _ K 50 (dgCells n1 4) := hX2
          rw [hd] at hX3
          have HX3 := Lib.hid hX3
          have hc : wr.cell? ⟨K, 1, none⟩ = some (.int .u8 0) := c
          clear c hd hX2 hX3
          go_wp2_with fail
          go_roundw
          case rel => exact ⟨4, n2 / 85, by omega, by go_num, by go_num, Lib.hid (by rw [HD.out, Nat.div_div_eq_div_mul]), by omega, HX3, Lib.hid (set_low HB2.out HKs.out _ _)⟩
          case measure => simp [intOf]
        · have c := HX.out.cell 0
          have f := HX.out.frozen 0
          have hd : ((UInt8.ofNat (n1 / 52200625 % 85)).toNat : Int) = (n2 : Int) % 85 := by rw [HD.out, UInt8.toNat_ofNat']; simp; omega
          have hX2 := HX.out.set_ 0 (.int .u8 ((n2 : Int) % 85))
          rw [← hd] at hX2
          have hX3 : Blk _ K 50 (dgCells n1 5) := hX2
          rw [hd] at hX3
          have HX3 := Lib.hid hX3
          have hc : wr.cell? ⟨K, 0, none⟩ = some (.int .u8 0) := c
          clear c hd hX2 hX3
          go_wp2_with fail
          go_roundw
          case rel => exact ⟨5, n2 / 85, by omega, by go_num, by go_num, Lib.hid (by rw [HD.out, Nat.div_div_eq_div_mul]), by omega, HX3, Lib.hid (set_low HB2.out HKs.out _ _)⟩
          case measure => simp [intOf]
        · go_wp2_with fail
          go_ret
          exact ⟨K, HKs.out, rfl, HX.out, HB2.out⟩
end Go.Proofs.Ythioafndepkhoaa
