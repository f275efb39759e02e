/-
  The sample results of the layer fix: lives returns true, in every world that holds the library's variables.
-/
import Derived.Test.YtmimeconkmfkfaaDoorFixRh
import Derived.Test.YtmimeconkmfkfaaDoorFixS
import Derived.Test.YtmimeconkmfkfaaDoorFixY
namespace Go.Proofs.YtmimeconkmfkfaaDoor
open Go.RowKit Fix

/-- What the calls ask of the library's variables. -/
def Live (w : World) : Prop := MaxLenAt w ∧ Tab10 w
theorem Live.below {B : Nat} {w w' : World} (h : Live w) (hb : Below B w w') (hB : w.heap.size ≤ B) : Live w' := ⟨h.1.below hb hB, tab10_below h.2 hb hB⟩
theorem Live.alloc {w : World} (h : Live w) (o : Obj) : Live (w.alloc o) := h.below ((Below.refl w.heap.size w).alloc (Nat.le_refl _) o) (Nat.le_refl _)
theorem reads_new (w : World) (xs : List Int) (t : TypeId) : ReadsInts (w.alloc (.cells (xs.map (Value.int .i64)).toArray t)) (some ⟨w.heap.size, 0, none⟩) xs := by
  intro j hj
  refine ⟨w.heap.size, 0, rfl, ?_⟩
  simp [hj]

theorem read_c (s : ByteArray) (n e : Int) (w : World) (hs : s.size ≤ 100000) (hw : Live w) (hn : readN s.data.toList = n) (he : readE s.data.toList = e) :
    Calls Tryd.prog 9 #[.string s] w fun en w' => en = .returned (.tuple #[.int .i64 n, .int .i64 e]) ∧ Below w.heap.size w w' := hn ▸ he ▸ read_any s w hs hw.1
theorem text_c (n : Int) (t : ByteArray) (w : World) (hw : Live w) (ht : textL n = t.data.toList) :
    Calls Tryd.prog 15 #[.int .i64 n] w fun en w' => en = .returned (.string t) ∧ Below w.heap.size w w' :=
  (text_any n w hw.2).mono fun _ _ ⟨h1, h2⟩ => ⟨by rw [h1, ht], h2⟩
theorem near_c (n d r e : Int) (w : World) (hd : d ≤ 9223372036854775807) (hr : nearN n d = r) (he : nearE n d = e) :
    Calls Tryd.prog 11 #[.int .i64 n, .int .i64 d] w fun en w' => en = .returned (.tuple #[.int .i64 r, .int .i64 e]) ∧ Below w.heap.size w w' := hr ▸ he ▸ near_all n d w hd
theorem mul_c (a b r e : Int) (w : World) (hr : mulN a b = r) (he : mulE a b = e) :
    Calls Tryd.prog 19 #[.int .i64 a, .int .i64 b] w fun en w' => en = .returned (.tuple #[.int .i64 r, .int .i64 e]) ∧ Below w.heap.size w w' := hr ▸ he ▸ mul_any a b w
theorem div_c (a b r e : Int) (w : World) (hr : divN a b = r) (he : divE a b = e) :
    Calls Tryd.prog 21 #[.int .i64 a, .int .i64 b] w fun en w' => en = .returned (.tuple #[.int .i64 r, .int .i64 e]) ∧ Below w.heap.size w w' := hr ▸ he ▸ div_any a b w
theorem root_c (a r e : Int) (w : World) (hr : rootN a = r) (he : rootE a = e) :
    Calls Tryd.prog 13 #[.int .i64 a] w fun en w' => en = .returned (.tuple #[.int .i64 r, .int .i64 e]) ∧ Below w.heap.size w w' := hr ▸ he ▸ rootgo_any a w
theorem sum_c (a : Option Addr) (cap : Nat) (xs : List Int) (r e : Int) (w : World) (hlen : xs.length ≤ 1000000) (hc : ReadsInts w a xs) (hr : sumN xs = r) (he : sumE xs = e) :
    Calls Tryd.prog 25 #[.slice a xs.length cap] w fun en w' => en = .returned (.tuple #[.int .i64 r, .int .i64 e]) ∧ Below w.heap.size w w' := hr ▸ he ▸ sum_any a cap xs w hlen hc
theorem dot_c (a : Option Addr) (cap : Nat) (xs : List Int) (r e : Int) (w : World) (hlen : xs.length ≤ 1000000) (hc : ReadsInts w a xs) (hr : dotN xs = r) (he : dotE xs = e) :
    Calls Tryd.prog 23 #[.slice a xs.length cap] w fun en w' => en = .returned (.tuple #[.int .i64 r, .int .i64 e]) ∧ Below w.heap.size w w' := hr ▸ he ▸ dot_any a cap xs w hlen hc

theorem digits_small (a b c d : Nat) (ha : a < 10) (hb : b < 10) (hc : c < 10) (hd : d < 10) : digitsL (1000 * a + 100 * b + 10 * c + d) 4 = [48 + UInt8.ofNat a, 48 + UInt8.ofNat b, 48 + UInt8.ofNat c, 48 + UInt8.ofNat d] := by
  rw [digitsL_more _ 4 (Or.inr (by decide)), digitsL_more _ 3 (Or.inr (by decide)), digitsL_more _ 2 (Or.inr (by decide)), digitsL_more _ 1 (Or.inr (by decide)),
    show (1000 * a + 100 * b + 10 * c + d) / 10 = 100 * a + 10 * b + c by omega, show (100 * a + 10 * b + c) / 10 = 10 * a + b by omega, show (10 * a + b) / 10 = a by omega, show a / 10 = 0 by omega, digitsL_zero,
    show (1000 * a + 100 * b + 10 * c + d) % 10 = d by omega, show (100 * a + 10 * b + c) % 10 = c by omega, show (10 * a + b) % 10 = b by omega, show a % 10 = a by omega]
  rfl
theorem frac_1 : fracL 1 = [48, 48, 48, 49] := by unfold fracL; rw [show digitsL 1 4 = [48, 48, 48, 49] from digits_small 0 0 0 1 (by decide) (by decide) (by decide) (by decide)]; rfl
theorem frac_0 : fracL 0 = [48] := by unfold fracL; rw [show digitsL 0 4 = [48, 48, 48, 48] from digits_small 0 0 0 0 (by decide) (by decide) (by decide) (by decide)]; rfl
theorem text_30000 : textL 30000 = [51, 46, 48] := by rw [textL_in 30000 (by decide) (by decide), show (30000 : Int).natAbs / 10000 = 3 from rfl, show (30000 : Int).natAbs % 10000 = 0 from rfl, frac_0, Lib.decDigits]; rfl
theorem text_1 : textL 1 = [48, 46, 48, 48, 48, 49] := by rw [textL_in 1 (by decide) (by decide), show (1 : Int).natAbs / 10000 = 0 from rfl, show (1 : Int).natAbs % 10000 = 1 from rfl, frac_1, Lib.decDigits]; rfl
theorem text_0 : textL 0 = [48, 46, 48] := by rw [textL_in 0 (by decide) (by decide), show (0 : Int).natAbs / 10000 = 0 from rfl, show (0 : Int).natAbs % 10000 = 0 from rfl, frac_0, Lib.decDigits]; rfl
end Go.Proofs.YtmimeconkmfkfaaDoor
