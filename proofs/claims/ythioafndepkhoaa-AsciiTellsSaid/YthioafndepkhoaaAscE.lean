/-
  ascii's bytesOf: the bytes of five digits.
-/
import Derived.Test.YthioafndepkhoaaAscD
namespace Go.Proofs.Ythioafndepkhoaa
open Go.RowKit Oct Asc

def v5 (l : List UInt8) : Nat := l.foldl (fun (n : Nat) (d : UInt8) => 85 * n + d.toNat) 0
theorem v5_more (l : List UInt8) (k : Nat) (h : k < l.length) : v5 (l.take (k + 1)) = 85 * v5 (l.take k) + l[k].toNat := by
  unfold v5
  rw [take_more h, List.foldl_append]
  rfl
theorem v5_lt (l : List UInt8) : v5 l < 256 * 85 ^ l.length := by
  have key : ∀ (l : List UInt8) (n : Nat), l.foldl (fun (n : Nat) (d : UInt8) => 85 * n + d.toNat) n < (n + 256) * 85 ^ l.length := by
    intro l
    induction l with
    | nil => intro n; simp
    | cons d t ih =>
      intro n
      have h := ih (85 * n + d.toNat)
      have hd := d.toNat_lt
      rw [List.foldl_cons, List.length_cons, Nat.pow_succ]
      refine Nat.lt_of_lt_of_le h ?_
      rw [Nat.mul_comm (85 ^ t.length) 85, ← Nat.mul_assoc]
      exact Nat.mul_le_mul_right _ (by omega)
  have := key l 0
  unfold v5
  omega
def arr5 (l : List UInt8) : Value := .agg (cellsOf l).toArray

theorem arr_bytes4 {n : Nat} (h : n ≤ 4294967295) : arr5 (bytes4 n) = .agg #[.int .u8 ((n : Int) / 16777216), .int .u8 ((n : Int) / 65536 % 256), .int .u8 ((n : Int) / 256 % 256), .int .u8 ((n : Int) % 256)] := by
  have e : ∀ x : Nat, (((UInt8.ofNat x).toNat : Nat) : Int) = (x : Int) % 256 := fun x => by rw [UInt8.toNat_ofNat']; omega
  unfold arr5 bytes4 cellsOf
  simp only [List.map_cons, List.map_nil, e]
  rw [show ((n / 16777216 : Nat) : Int) % 256 = (n : Int) / 16777216 by omega, show ((n / 65536 : Nat) : Int) % 256 = (n : Int) / 65536 % 256 by omega, show ((n / 256 : Nat) : Int) % 256 = (n : Int) / 256 % 256 by omega]
theorem set_low {B k : Nat} {w w' : World} (h : Below B w w') (hk : B ≤ k) (i : Nat) (u : Value) : Below B w (w'.setCell ⟨k, i, none⟩ u) :=
  ⟨h.os, h.tape, h.output, Nat.le_trans h.size (by simp [World.setCell]), fun j hj => (Below.heap_setCell w' ⟨k, i, none⟩ u j (fun e => by have e : j = k := e; omega)).trans (h.block j hj)⟩

set_option maxRecDepth 100000 in
set_option maxHeartbeats 4000000 in
theorem bytesOf_in (l : List UInt8) (n : Nat) (w : World) (hl : l.length = 5) (hn : v5 l = n) (h : n ≤ 4294967295) :
    Calls Try.prog 38 #[arr5 l] w fun e w' => e = .returned (arr5 (bytes4 n)) ∧ Below w.heap.size w w' := by
  obtain ⟨d0, d1, d2, d3, d4, rfl⟩ : ∃ d0 d1 d2 d3 d4, l = [d0, d1, d2, d3, d4] := by
    match l, hl with
    | [a, b, c, d, e], _ => exact ⟨a, b, c, d, e, rfl⟩
  have HN := Lib.hid hn
  clear hn hl
  show Calls Try.prog 38 #[.agg #[.int .u8 (d0.toNat : Int), .int .u8 (d1.toNat : Int), .int .u8 (d2.toNat : Int), .int .u8 (d3.toNat : Int), .int .u8 (d4.toNat : Int)]] w _
  go_enter Try.func38, Try.ntmps38
  go_wp2_with fail
  obtain ⟨W, hW⟩ : ∃ W, ((w.alloc (.cells #[.int .u8 (d0.toNat : Int), .int .u8 (d1.toNat : Int), .int .u8 (d2.toNat : Int), .int .u8 (d3.toNat : Int), .int .u8 (d4.toNat : Int)] 50)).alloc (.cells #[.int .u8 0, .int .u8 0, .int .u8 0, .int .u8 0] 37)) = W := ⟨_, rfl⟩
  have hB : Below w.heap.size w W := by rw [← hW]; exact ((Below.refl _ _).alloc (Nat.le_refl _) _).alloc (by simp) _
  have hX : Blk W (w.heap.size + 1) 37 #[.int .u8 0, .int .u8 0, .int .u8 0, .int .u8 0] := by
    rw [← hW]
    have := Blk.new (w.alloc (.cells #[.int .u8 (d0.toNat : Int), .int .u8 (d1.toNat : Int), .int .u8 (d2.toNat : Int), .int .u8 (d3.toNat : Int), .int .u8 (d4.toNat : Int)] 50)) 37 #[.int .u8 0, .int .u8 0, .int .u8 0, .int .u8 0]
    rw [World.size_alloc] at this
    exact this
  rw [hW]
  have HB := Lib.hid hB
  have HX := Lib.hid hX
  have x0 : ∀ w, (Instr.index 50 (.agg #[.int .u8 (d0.toNat : Int), .int .u8 (d1.toNat : Int), .int .u8 (d2.toNat : Int), .int .u8 (d3.toNat : Int), .int .u8 (d4.toNat : Int)]) (.int .i64 0)).run Try.prog w = .ok (.int .u8 (d0.toNat : Int)) w := fun _ => by kernel_rfl
  have x1 : ∀ w, (Instr.index 50 (.agg #[.int .u8 (d0.toNat : Int), .int .u8 (d1.toNat : Int), .int .u8 (d2.toNat : Int), .int .u8 (d3.toNat : Int), .int .u8 (d4.toNat : Int)]) (.int .i64 1)).run Try.prog w = .ok (.int .u8 (d1.toNat : Int)) w := fun _ => by kernel_rfl
  have x2 : ∀ w, (Instr.index 50 (.agg #[.int .u8 (d0.toNat : Int), .int .u8 (d1.toNat : Int), .int .u8 (d2.toNat : Int), .int .u8 (d3.toNat : Int), .int .u8 (d4.toNat : Int)]) (.int .i64 2)).run Try.prog w = .ok (.int .u8 (d2.toNat : Int)) w := fun _ => by kernel_rfl
  have x3 : ∀ w, (Instr.index 50 (.agg #[.int .u8 (d0.toNat : Int), .int .u8 (d1.toNat : Int), .int .u8 (d2.toNat : Int), .int .u8 (d3.toNat : Int), .int .u8 (d4.toNat : Int)]) (.int .i64 3)).run Try.prog w = .ok (.int .u8 (d3.toNat : Int)) w := fun _ => by kernel_rfl
  have x4 : ∀ w, (Instr.index 50 (.agg #[.int .u8 (d0.toNat : Int), .int .u8 (d1.toNat : Int), .int .u8 (d2.toNat : Int), .int .u8 (d3.toNat : Int), .int .u8 (d4.toNat : Int)]) (.int .i64 4)).run Try.prog w = .ok (.int .u8 (d4.toNat : Int)) w := fun _ => by kernel_rfl
  clear hB hX hW
  go_loopw [3, 7] (fun v i wr => ∃ k n1 : Nat, k ≤ 5 ∧ v = .int .u64 (n1 : Int) ∧ i = .int .i64 (k : Int) ∧ Hid (n1 = v5 ([d0, d1, d2, d3, d4].take k)) ∧ n1 + 4 ≤ 4 * 85 ^ k ∧ wr = W) (fun _ i _ => 5 - (intOf i).toNat)
  case atStart => exact ⟨0, 0, by omega, rfl, rfl, Lib.hid rfl, by omega, rfl⟩
  case round =>
    obtain ⟨k, n1, hk, rfl, rfl, HV, hb, rfl⟩ := hrel
    have hc : k = 0 ∨ k = 1 ∨ k = 2 ∨ k = 3 ∨ k = 4 ∨ k = 5 := by omega
    rcases hc with rfl | rfl | rfl | rfl | rfl | rfl
    · have hc1 : (d0.toNat : Int) ≤ 255 := by have := d0.toNat_lt; omega
      go_wp2_with fail
      go_roundw
      case rel => exact ⟨1, 85 * n1 + d0.toNat, by omega, by go_num, by go_num, Lib.hid (by rw [HV.out]; exact (v5_more [d0, d1, d2, d3, d4] 0 (by simp)).symm), by omega, trivial⟩
      case measure => simp [intOf]
    · have hc1 : (d1.toNat : Int) ≤ 255 := by have := d1.toNat_lt; omega
      go_wp2_with fail
      go_roundw
      case rel => exact ⟨2, 85 * n1 + d1.toNat, by omega, by go_num, by go_num, Lib.hid (by rw [HV.out]; exact (v5_more [d0, d1, d2, d3, d4] 1 (by simp)).symm), by omega, trivial⟩
      case measure => simp [intOf]
    · have hc1 : (d2.toNat : Int) ≤ 255 := by have := d2.toNat_lt; omega
      go_wp2_with fail
      go_roundw
      case rel => exact ⟨3, 85 * n1 + d2.toNat, by omega, by go_num, by go_num, Lib.hid (by rw [HV.out]; exact (v5_more [d0, d1, d2, d3, d4] 2 (by simp)).symm), by omega, trivial⟩
      case measure => simp [intOf]
    · have hc1 : (d3.toNat : Int) ≤ 255 := by have := d3.toNat_lt; omega
      go_wp2_with fail
      go_roundw
      case rel => exact ⟨4, 85 * n1 + d3.toNat, by omega, by go_num, by go_num, Lib.hid (by rw [HV.out]; exact (v5_more [d0, d1, d2, d3, d4] 3 (by simp)).symm), by omega, trivial⟩
      case measure => simp [intOf]
    · have hc1 : (d4.toNat : Int) ≤ 255 := by have := d4.toNat_lt; omega
      go_wp2_with fail
      go_roundw
      case rel => exact ⟨5, 85 * n1 + d4.toNat, by omega, by go_num, by go_num, Lib.hid (by rw [HV.out]; exact (v5_more [d0, d1, d2, d3, d4] 4 (by simp)).symm), by omega, trivial⟩
      case measure => simp [intOf]
    · obtain rfl : n1 = n := by rw [HV.out]; exact HN.out
      have c0 : wr.cell? ⟨w.heap.size + 1, 0, none⟩ = some (.int .u8 0) := HX.out.cell 0
      have c1 : wr.cell? ⟨w.heap.size + 1, 1, none⟩ = some (.int .u8 0) := HX.out.cell 1
      have c2 : wr.cell? ⟨w.heap.size + 1, 2, none⟩ = some (.int .u8 0) := HX.out.cell 2
      have c3 : wr.cell? ⟨w.heap.size + 1, 3, none⟩ = some (.int .u8 0) := HX.out.cell 3
      have f0 := HX.out.frozen 0
      have f1 := HX.out.frozen 1
      have f2 := HX.out.frozen 2
      have f3 := HX.out.frozen 3
      go_wp2_with fail
      refine bodyPost_ret (v := .agg #[.int .u8 ((n1 : Int) / 16777216), .int .u8 ((n1 : Int) / 65536 % 256), .int .u8 ((n1 : Int) / 256 % 256), .int .u8 ((n1 : Int) % 256)]) (by simp [results, Try.results38, go_sem, c0, c1, c2, c3]) rfl ⟨?_, ?_⟩
      · rw [arr_bytes4 h]
      · have hs : w.heap.size ≤ w.heap.size + 1 := Nat.le_succ _
        exact set_low (set_low (set_low (set_low HB.out hs _ _) hs _ _) hs _ _) hs _ _

set_option maxRecDepth 100000 in
set_option maxHeartbeats 4000000 in
theorem bytesOf_no (l : List UInt8) (n : Nat) (w : World) (hl : l.length = 5) (hn : v5 l = n) (h : 4294967295 < n) :
    Calls Try.prog 38 #[arr5 l] w fun e w' => e = gUp 3 ∧ Below w.heap.size w w' := by
  obtain ⟨d0, d1, d2, d3, d4, rfl⟩ : ∃ d0 d1 d2 d3 d4, l = [d0, d1, d2, d3, d4] := by
    match l, hl with
    | [a, b, c, d, e], _ => exact ⟨a, b, c, d, e, rfl⟩
  have HN := Lib.hid hn
  clear hn hl
  show Calls Try.prog 38 #[.agg #[.int .u8 (d0.toNat : Int), .int .u8 (d1.toNat : Int), .int .u8 (d2.toNat : Int), .int .u8 (d3.toNat : Int), .int .u8 (d4.toNat : Int)]] w _
  go_enter Try.func38, Try.ntmps38
  go_wp2_with fail
  obtain ⟨W, hW⟩ : ∃ W, ((w.alloc (.cells #[.int .u8 (d0.toNat : Int), .int .u8 (d1.toNat : Int), .int .u8 (d2.toNat : Int), .int .u8 (d3.toNat : Int), .int .u8 (d4.toNat : Int)] 50)).alloc (.cells #[.int .u8 0, .int .u8 0, .int .u8 0, .int .u8 0] 37)) = W := ⟨_, rfl⟩
  have hB : Below w.heap.size w W := by rw [← hW]; exact ((Below.refl _ _).alloc (Nat.le_refl _) _).alloc (by simp) _
  have hX : Blk W (w.heap.size + 1) 37 #[.int .u8 0, .int .u8 0, .int .u8 0, .int .u8 0] := by
    rw [← hW]
    have := Blk.new (w.alloc (.cells #[.int .u8 (d0.toNat : Int), .int .u8 (d1.toNat : Int), .int .u8 (d2.toNat : Int), .int .u8 (d3.toNat : Int), .int .u8 (d4.toNat : Int)] 50)) 37 #[.int .u8 0, .int .u8 0, .int .u8 0, .int .u8 0]
    rw [World.size_alloc] at this
    exact this
  rw [hW]
  have HB := Lib.hid hB
  have HX := Lib.hid hX
  have x0 : ∀ w, (Instr.index 50 (.agg #[.int .u8 (d0.toNat : Int), .int .u8 (d1.toNat : Int), .int .u8 (d2.toNat : Int), .int .u8 (d3.toNat : Int), .int .u8 (d4.toNat : Int)]) (.int .i64 0)).run Try.prog w = .ok (.int .u8 (d0.toNat : Int)) w := fun _ => by kernel_rfl
  have x1 : ∀ w, (Instr.index 50 (.agg #[.int .u8 (d0.toNat : Int), .int .u8 (d1.toNat : Int), .int .u8 (d2.toNat : Int), .int .u8 (d3.toNat : Int), .int .u8 (d4.toNat : Int)]) (.int .i64 1)).run Try.prog w = .ok (.int .u8 (d1.toNat : Int)) w := fun _ => by kernel_rfl
  have x2 : ∀ w, (Instr.index 50 (.agg #[.int .u8 (d0.toNat : Int), .int .u8 (d1.toNat : Int), .int .u8 (d2.toNat : Int), .int .u8 (d3.toNat : Int), .int .u8 (d4.toNat : Int)]) (.int .i64 2)).run Try.prog w = .ok (.int .u8 (d2.toNat : Int)) w := fun _ => by kernel_rfl
  have x3 : ∀ w, (Instr.index 50 (.agg #[.int .u8 (d0.toNat : Int), .int .u8 (d1.toNat : Int), .int .u8 (d2.toNat : Int), .int .u8 (d3.toNat : Int), .int .u8 (d4.toNat : Int)]) (.int .i64 3)).run Try.prog w = .ok (.int .u8 (d3.toNat : Int)) w := fun _ => by kernel_rfl
  have x4 : ∀ w, (Instr.index 50 (.agg #[.int .u8 (d0.toNat : Int), .int .u8 (d1.toNat : Int), .int .u8 (d2.toNat : Int), .int .u8 (d3.toNat : Int), .int .u8 (d4.toNat : Int)]) (.int .i64 4)).run Try.prog w = .ok (.int .u8 (d4.toNat : Int)) w := fun _ => by kernel_rfl
  clear hB hX hW
  go_loopw [3, 7] (fun v i wr => ∃ k n1 : Nat, k ≤ 5 ∧ v = .int .u64 (n1 : Int) ∧ i = .int .i64 (k : Int) ∧ Hid (n1 = v5 ([d0, d1, d2, d3, d4].take k)) ∧ n1 + 4 ≤ 4 * 85 ^ k ∧ wr = W) (fun _ i _ => 5 - (intOf i).toNat)
  case atStart => exact ⟨0, 0, by omega, rfl, rfl, Lib.hid rfl, by omega, rfl⟩
  case round =>
    obtain ⟨k, n1, hk, rfl, rfl, HV, hb, rfl⟩ := hrel
    have hc : k = 0 ∨ k = 1 ∨ k = 2 ∨ k = 3 ∨ k = 4 ∨ k = 5 := by omega
    rcases hc with rfl | rfl | rfl | rfl | rfl | rfl
    · have hc1 : (d0.toNat : Int) ≤ 255 := by have := d0.toNat_lt; omega
      go_wp2_with fail
      go_roundw
      case rel => exact ⟨1, 85 * n1 + d0.toNat, by omega, by go_num, by go_num, Lib.hid (by rw [HV.out]; exact (v5_more [d0, d1, d2, d3, d4] 0 (by simp)).symm), by omega, trivial⟩
      case measure => simp [intOf]
    · have hc1 : (d1.toNat : Int) ≤ 255 := by have := d1.toNat_lt; omega
      go_wp2_with fail
      go_roundw
      case rel => exact ⟨2, 85 * n1 + d1.toNat, by omega, by go_num, by go_num, Lib.hid (by rw [HV.out]; exact (v5_more [d0, d1, d2, d3, d4] 1 (by simp)).symm), by omega, trivial⟩
      case measure => simp [intOf]
    · have hc1 : (d2.toNat : Int) ≤ 255 := by have := d2.toNat_lt; omega
      go_wp2_with fail
      go_roundw
      case rel => exact ⟨3, 85 * n1 + d2.toNat, by omega, by go_num, by go_num, Lib.hid (by rw [HV.out]; exact (v5_more [d0, d1, d2, d3, d4] 2 (by simp)).symm), by omega, trivial⟩
      case measure => simp [intOf]
    · have hc1 : (d3.toNat : Int) ≤ 255 := by have := d3.toNat_lt; omega
      go_wp2_with fail
      go_roundw
      case rel => exact ⟨4, 85 * n1 + d3.toNat, by omega, by go_num, by go_num, Lib.hid (by rw [HV.out]; exact (v5_more [d0, d1, d2, d3, d4] 3 (by simp)).symm), by omega, trivial⟩
      case measure => simp [intOf]
    · have hc1 : (d4.toNat : Int) ≤ 255 := by have := d4.toNat_lt; omega
      go_wp2_with fail
      go_roundw
      case rel => exact ⟨5, 85 * n1 + d4.toNat, by omega, by go_num, by go_num, Lib.hid (by rw [HV.out]; exact (v5_more [d0, d1, d2, d3, d4] 4 (by simp)).symm), by omega, trivial⟩
      case measure => simp [intOf]
    · obtain rfl : n1 = n := by rw [HV.out]; exact HN.out
      have hbig : (4294967295 : Int) < (n1 : Int) := by omega
      go_wp2_with fail
      refine (up_any _ _).mono ?_
      rintro e w2 ⟨rfl, rfl⟩
      exact ⟨rfl, rfl, HB.out⟩
end Go.Proofs.Ythioafndepkhoaa
