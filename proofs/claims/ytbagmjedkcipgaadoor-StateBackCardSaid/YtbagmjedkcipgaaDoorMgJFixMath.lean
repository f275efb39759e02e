/-
  Lemmas and walks, joined: FixMath, MatMath.
-/
import Derived.Below
namespace Go.Proofs.YtbagmjedkcipgaaDoor.Fix

/-- n/by to the nearest integer, halves up. -/
def nearS (n d : Int) : Int := (2 * n + d) / (2 * d)

/-- What Go's text computes from its truncated quotient and rest. -/
theorem near_go (n d : Int) (hd : 0 < d) :
    nearS n d = (if n.tmod d < 0 then (if d - (n.tmod d + d) ≤ n.tmod d + d then n.tdiv d - 1 + 1 else n.tdiv d - 1) else (if d - n.tmod d ≤ n.tmod d then n.tdiv d + 1 else n.tdiv d)) := by
  have hdm : d * (n.tdiv d) + n.tmod d = n := Int.mul_tdiv_add_tmod n d
  have hq : ∀ q r : Int, n = d * q + r → 0 ≤ r → r < d → nearS n d = if d - r ≤ r then q + 1 else q := by
    intro q r hn h0 h1
    have e : 2 * n + d = (2 * r + d) + q * (2 * d) := by
      rw [hn, Int.mul_add, Int.mul_comm q (2 * d), Int.mul_assoc]; omega
    unfold nearS
    rw [e, Int.add_mul_ediv_right _ _ (by omega : (2 * d) ≠ 0)]
    by_cases h : d - r ≤ r
    · rw [if_pos h]
      have : (2 * r + d) / (2 * d) = 1 := by
        have e1 : 2 * r + d = (2 * r - d) + 1 * (2 * d) := by omega
        rw [e1, Int.add_mul_ediv_right _ _ (by omega : (2 * d) ≠ 0), Int.ediv_eq_zero_of_lt (by omega) (by omega)]
        rfl
      rw [this]; omega
    · rw [if_neg h, Int.ediv_eq_zero_of_lt (by omega) (by omega)]
      omega
  have hlt : n.tmod d < d := Int.tmod_lt_of_pos n hd
  have hgt : -d < n.tmod d := by
    have := Int.lt_tmod_of_pos n hd
    omega
  by_cases h : n.tmod d < 0
  · rw [if_pos h, hq (n.tdiv d - 1) (n.tmod d + d) (by rw [Int.mul_sub, Int.mul_one]; omega) (by omega) (by omega)]
  · rw [if_neg h, hq (n.tdiv d) (n.tmod d) (by omega) (by omega) hlt]

/-- To the nearest: within a half, halves up. -/
theorem near_bounds (n d : Int) (hd : 0 < d) : d * (2 * nearS n d - 1) ≤ 2 * n ∧ 2 * n < d * (2 * nearS n d + 1) := by
  have h1 : (2 * d) * nearS n d ≤ 2 * n + d := Int.mul_ediv_self_le (by omega)
  have h2 : 2 * n + d < (2 * d) * nearS n d + 2 * d := Int.lt_mul_ediv_self_add (by omega)
  rw [Int.mul_sub, Int.mul_add]
  have e : d * (2 * nearS n d) = (2 * d) * nearS n d := by rw [← Int.mul_assoc, Int.mul_comm d 2]
  rw [e, Int.mul_one]
  omega

theorem near_exact (a d : Int) (hd : 0 < d) : nearS (a * d) d = a := by
  unfold nearS
  have e : 2 * (a * d) + d = d + a * (2 * d) := by
    rw [← Int.mul_assoc, Int.mul_comm 2 a, Int.mul_assoc]; omega
  rw [e, Int.add_mul_ediv_right _ _ (by omega : (2 * d) ≠ 0), Int.ediv_eq_zero_of_lt (by omega) (by omega)]
  omega

theorem near_le {n d b : Int} (hd : 0 < d) (h : n ≤ b * d) : nearS n d ≤ b := by
  have := Int.ediv_le_ediv (c := 2 * d) (by omega) (show 2 * n + d ≤ 2 * (b * d) + d by omega)
  exact Int.le_trans this (Int.le_of_eq (near_exact b d hd))
theorem near_ge {n d b : Int} (hd : 0 < d) (h : b * d ≤ n) : b ≤ nearS n d := by
  have := Int.ediv_le_ediv (c := 2 * d) (by omega) (show 2 * (b * d) + d ≤ 2 * n + d by omega)
  exact Int.le_trans (Int.le_of_eq (near_exact b d hd).symm) this

/-- The root, bit by bit: what is found of it before bit k, for a root below 2^top. -/
theorem root_step (n r b : Int) (_h0 : 0 ≤ r) (_hb : 0 < b) (h1 : r * r ≤ n) (h2 : n < (r + 2 * b) * (r + 2 * b)) :
    (if (r + b) * (r + b) ≤ n then (r + b) * (r + b) ≤ n ∧ n < (r + b + b) * (r + b + b) else r * r ≤ n ∧ n < (r + b) * (r + b)) := by
  split
  · rename_i h
    exact ⟨h, by rwa [show r + b + b = r + 2 * b by omega]⟩
  · rename_i h
    exact ⟨h1, by omega⟩

theorem root_unique (n r s : Int) (hr : 0 ≤ r) (hs : 0 ≤ s) (r1 : r * r ≤ n) (r2 : n < (r + 1) * (r + 1)) (s1 : s * s ≤ n) (s2 : n < (s + 1) * (s + 1)) : r = s := by
  rcases Int.lt_trichotomy r s with h | h | h
  · have : (r + 1) * (r + 1) ≤ s * s := Int.mul_le_mul (by omega) (by omega) (by omega) (by omega)
    omega
  · exact h
  · have : (s + 1) * (s + 1) ≤ r * r := Int.mul_le_mul (by omega) (by omega) (by omega) (by omega)
    omega
def inRange (n : Int) : Bool := decide (-1073741824 ≤ n) && decide (n ≤ 1073741824)
theorem inRange_yes {n : Int} (h : inRange n = true) : -1073741824 ≤ n ∧ n ≤ 1073741824 := by
  unfold inRange at h
  simpa using h
theorem inRange_no {n : Int} (h : ¬ inRange n = true) : n < -1073741824 ∨ 1073741824 < n := by
  unfold inRange at h
  simp at h
  omega
end Go.Proofs.YtbagmjedkcipgaaDoor.Fix
namespace Go.Proofs.YtbagmjedkcipgaaDoor.Mat
open Fix

/-- Six coefficients. -/
structure Mx where
  a : Int
  b : Int
  c : Int
  d : Int
  e : Int
  f : Int

def zeroM : Mx := ⟨0, 0, 0, 0, 0, 0⟩
def oneM : Mx := ⟨10000, 0, 0, 10000, 0, 0⟩
def okM (m : Mx) : Bool := inRange m.a && inRange m.b && inRange m.c && inRange m.d && inRange m.e && inRange m.f
theorem okM_yes {m : Mx} (h : okM m = true) : inRange m.a = true ∧ inRange m.b = true ∧ inRange m.c = true ∧ inRange m.d = true ∧ inRange m.e = true ∧ inRange m.f = true := by
  unfold okM at h
  simp only [Bool.and_eq_true] at h
  exact ⟨h.1.1.1.1.1, h.1.1.1.1.2, h.1.1.1.2, h.1.1.2, h.1.2, h.2⟩
theorem okM_mk {m : Mx} (h1 : inRange m.a = true) (h2 : inRange m.b = true) (h3 : inRange m.c = true) (h4 : inRange m.d = true) (h5 : inRange m.e = true) (h6 : inRange m.f = true) : okM m = true := by
  unfold okM
  rw [h1, h2, h3, h4, h5, h6]
  rfl
theorem inRange_mk {n : Int} (h1 : -1073741824 ≤ n) (h2 : n ≤ 1073741824) : inRange n = true := by
  unfold inRange
  simp only [Bool.and_eq_true, decide_eq_true_eq]
  exact ⟨h1, h2⟩

/-- The sums of two and of three products, rounded. -/
def d4 (a b c d : Int) : Int := nearS (a * b + c * d) 10000
def d6 (a b c d e : Int) : Int := nearS (a * b + c * d + e * 10000) 10000

def mulM (x y : Mx) : Mx := ⟨d4 x.a y.a x.b y.c, d4 x.a y.b x.b y.d, d4 x.c y.a x.d y.c, d4 x.c y.b x.d y.d, d6 x.e y.a x.f y.c y.e, d6 x.e y.b x.f y.d y.f⟩
def mulO (x y : Mx) : Bool := okM x && okM y && okM (mulM x y)
def mulQ (x y : Mx) : Mx := if mulO x y then mulM x y else zeroM
def mulX (x y : Mx) : Int := if mulO x y then 0 else 2

def appA (m : Mx) (x y : Int) : Int := d6 x m.a y m.c m.e
def appB (m : Mx) (x y : Int) : Int := d6 x m.b y m.d m.f
def appO (m : Mx) (x y : Int) : Bool := okM m && (inRange x && inRange y && inRange (appA m x y) && inRange (appB m x y))
def appP (m : Mx) (x y : Int) : Int × Int := if appO m x y then (appA m x y, appB m x y) else (0, 0)
def appX (m : Mx) (x y : Int) : Int := if appO m x y then 0 else 2

theorem d4_exact (a b c d k : Int) (h : a * b + c * d = k * 10000) : d4 a b c d = k := by
  unfold d4
  rw [h]
  exact near_exact k 10000 (by decide)
theorem d6_exact (a b c d e k : Int) (h : a * b + c * d + e * 10000 = k * 10000) : d6 a b c d e = k := by
  unfold d6
  rw [h]
  exact near_exact k 10000 (by decide)
theorem d4_le {a b c d m : Int} (h1 : -(m * 10000) ≤ a * b + c * d) (h2 : a * b + c * d ≤ m * 10000) : -m ≤ d4 a b c d ∧ d4 a b c d ≤ m := by
  unfold d4
  exact ⟨near_ge (by decide) (by omega), near_le (by decide) h2⟩
theorem d6_le {a b c d e m : Int} (h1 : -(m * 10000) ≤ a * b + c * d + e * 10000) (h2 : a * b + c * d + e * 10000 ≤ m * 10000) : -m ≤ d6 a b c d e ∧ d6 a b c d e ≤ m := by
  unfold d6
  exact ⟨near_ge (by decide) (by omega), near_le (by decide) h2⟩
/-- What near asks of a rounded sum. -/
theorem near_law (s : Int) : 20000 * nearS s 10000 - 2 * s ≤ 10000 ∧ -10000 < 20000 * nearS s 10000 - 2 * s := by
  have h := near_bounds s 10000 (by decide)
  omega

/-! ### The identity. -/
theorem mul_oneR (m : Mx) : mulM m oneM = m := by
  unfold mulM oneM
  simp only
  rw [d4_exact m.a 10000 m.b 0 m.a (by omega), d4_exact m.a 0 m.b 10000 m.b (by omega), d4_exact m.c 10000 m.d 0 m.c (by omega), d4_exact m.c 0 m.d 10000 m.d (by omega),
    d6_exact m.e 10000 m.f 0 0 m.e (by omega), d6_exact m.e 0 m.f 10000 0 m.f (by omega)]
theorem mul_oneL (m : Mx) : mulM oneM m = m := by
  unfold mulM oneM
  simp only
  rw [d4_exact 10000 m.a 0 m.c m.a (by omega), d4_exact 10000 m.b 0 m.d m.b (by omega), d4_exact 0 m.a 10000 m.c m.c (by omega), d4_exact 0 m.b 10000 m.d m.d (by omega),
    d6_exact 0 m.a 0 m.c m.e m.e (by omega), d6_exact 0 m.b 0 m.d m.f m.f (by omega)]
theorem ok_one : okM oneM = true := by decide
theorem mulO_oneR {m : Mx} (h : okM m = true) : mulO m oneM = true := by unfold mulO; rw [mul_oneR, h, ok_one]; rfl
theorem mulO_oneL {m : Mx} (h : okM m = true) : mulO oneM m = true := by unfold mulO; rw [mul_oneL, h, ok_one]; rfl
theorem app_one (x y : Int) : appA oneM x y = x ∧ appB oneM x y = y := by
  unfold appA appB oneM
  simp only
  exact ⟨d6_exact x 10000 y 0 0 x (by omega), d6_exact x 0 y 10000 0 y (by omega)⟩

/-! ### Whole matrices: coefficients that are multiples of One (the last row: any numbers that the products keep whole). -/
/-- n times One. -/
def Mul1 (n k : Int) : Prop := n = k * 10000
theorem prod4 (a b c d : Int) : (a * 10000) * (b * 10000) + (c * 10000) * (d * 10000) = ((a * b + c * d) * 10000) * 10000 := by
  rw [Int.add_mul, Int.add_mul, show (a * 10000) * (b * 10000) = a * b * 10000 * 10000 by rw [Int.mul_assoc a 10000, Int.mul_comm 10000 (b * 10000), ← Int.mul_assoc, ← Int.mul_assoc], show (c * 10000) * (d * 10000) = c * d * 10000 * 10000 by rw [Int.mul_assoc c 10000, Int.mul_comm 10000 (d * 10000), ← Int.mul_assoc, ← Int.mul_assoc]]
theorem prod6 (e a f c g : Int) : e * (a * 10000) + f * (c * 10000) + g * 10000 = (e * a + f * c + g) * 10000 := by
  rw [Int.add_mul, Int.add_mul, Int.mul_assoc, Int.mul_assoc]
theorem d4_whole (a b c d : Int) : d4 (a * 10000) (b * 10000) (c * 10000) (d * 10000) = (a * b + c * d) * 10000 := d4_exact _ _ _ _ _ (prod4 a b c d)
theorem d6_whole (e a f c g : Int) : d6 e (a * 10000) f (c * 10000) g = e * a + f * c + g := d6_exact _ _ _ _ _ _ (prod6 e a f c g)

/-- The matrix whose first two rows are One times whole numbers. -/
def wM (m : Mx) : Mx := ⟨m.a * 10000, m.b * 10000, m.c * 10000, m.d * 10000, m.e, m.f⟩
/-- The product of such matrices in whole numbers. -/
def wMul (x y : Mx) : Mx := ⟨x.a * y.a + x.b * y.c, x.a * y.b + x.b * y.d, x.c * y.a + x.d * y.c, x.c * y.b + x.d * y.d, x.e * y.a + x.f * y.c + y.e, x.e * y.b + x.f * y.d + y.f⟩
theorem mul_w (x y : Mx) : mulM (wM x) (wM y) = wM (wMul x y) := by
  unfold mulM wM wMul
  simp only
  rw [d4_whole, d4_whole, d4_whole, d4_whole, d6_whole, d6_whole]
theorem app_w (m : Mx) (x y : Int) : appA (wM m) x y = x * m.a + y * m.c + m.e ∧ appB (wM m) x y = x * m.b + y * m.d + m.f := by
  unfold appA appB wM
  simp only
  exact ⟨d6_whole _ _ _ _ _, d6_whole _ _ _ _ _⟩
theorem wMul_assoc (x y z : Mx) : wMul (wMul x y) z = wMul x (wMul y z) := by
  unfold wMul
  simp only [Mx.mk.injEq]
  refine ⟨?_, ?_, ?_, ?_, ?_, ?_⟩ <;> simp only [Int.add_mul, Int.mul_add, Int.mul_assoc] <;> omega
theorem app_mul (x y : Mx) (u v : Int) : u * (wMul x y).a + v * (wMul x y).c + (wMul x y).e = (u * x.a + v * x.c + x.e) * y.a + (u * x.b + v * x.d + x.f) * y.c + y.e ∧
    u * (wMul x y).b + v * (wMul x y).d + (wMul x y).f = (u * x.a + v * x.c + x.e) * y.b + (u * x.b + v * x.d + x.f) * y.d + y.f := by
  unfold wMul
  simp only
  refine ⟨?_, ?_⟩ <;> simp only [Int.add_mul, Int.mul_add, Int.mul_assoc] <;> omega

/-! ### Bounds. -/
def Le (n b : Int) : Prop := -b ≤ n ∧ n ≤ b
theorem Le.mul {x y p q : Int} (h : Le x p) (k : Le y q) (hp : 0 ≤ p) (hq : 0 ≤ q) : Le (x * y) (p * q) := by
  unfold Le at h k ⊢
  have h1 : (x * y).natAbs ≤ p.natAbs * q.natAbs := by
    rw [Int.natAbs_mul]
    exact Nat.mul_le_mul (by omega) (by omega)
  have h2 : p.natAbs * q.natAbs = (p * q).natAbs := (Int.natAbs_mul p q).symm
  have h3 : 0 ≤ p * q := Int.mul_nonneg hp hq
  omega
theorem Le.add {x y p q : Int} (h : Le x p) (k : Le y q) : Le (x + y) (p + q) := by unfold Le at *; omega
theorem Le.le {x p q : Int} (h : Le x p) (k : p ≤ q) : Le x q := by unfold Le at *; omega
theorem Le.ok {x p : Int} (h : Le x p) (k : p ≤ 1073741824) : inRange x = true := inRange_mk (by unfold Le at h; omega) (by unfold Le at h; omega)

/-- First two rows of at most r, last row of at most t. -/
def Small (m : Mx) (r t : Int) : Prop := Le m.a r ∧ Le m.b r ∧ Le m.c r ∧ Le m.d r ∧ Le m.e t ∧ Le m.f t
theorem Small.mul {x y : Mx} {r s t u : Int} (h : Small x r t) (k : Small y s u) (hr : 0 ≤ r) (hs : 0 ≤ s) (ht : 0 ≤ t) : Small (wMul x y) (r * s + r * s) (t * s + t * s + u) := by
  obtain ⟨h1, h2, h3, h4, h5, h6⟩ := h
  obtain ⟨k1, k2, k3, k4, k5, k6⟩ := k
  exact ⟨(h1.mul k1 hr hs).add (h2.mul k3 hr hs), (h1.mul k2 hr hs).add (h2.mul k4 hr hs), (h3.mul k1 hr hs).add (h4.mul k3 hr hs), (h3.mul k2 hr hs).add (h4.mul k4 hr hs),
    ((h5.mul k1 ht hs).add (h6.mul k3 ht hs)).add k5, ((h5.mul k2 ht hs).add (h6.mul k4 ht hs)).add k6⟩
theorem Small.ok {m : Mx} {r t : Int} (h : Small m r t) (hr : r ≤ 107374) (ht : t ≤ 1073741824) : okM (wM m) = true := by
  obtain ⟨h1, h2, h3, h4, h5, h6⟩ := h
  unfold Le at h1 h2 h3 h4 h5 h6
  exact okM_mk (inRange_mk (by show _ ≤ m.a * 10000; omega) (by show m.a * 10000 ≤ _; omega)) (inRange_mk (by show _ ≤ m.b * 10000; omega) (by show m.b * 10000 ≤ _; omega))
    (inRange_mk (by show _ ≤ m.c * 10000; omega) (by show m.c * 10000 ≤ _; omega)) (inRange_mk (by show _ ≤ m.d * 10000; omega) (by show m.d * 10000 ≤ _; omega))
    (inRange_mk (by show _ ≤ m.e; omega) (by show m.e ≤ _; omega)) (inRange_mk (by show _ ≤ m.f; omega) (by show m.f ≤ _; omega))
theorem mulO_w {x y : Mx} (hx : okM (wM x) = true) (hy : okM (wM y) = true) (hz : okM (wM (wMul x y)) = true) : mulO (wM x) (wM y) = true := by
  unfold mulO
  rw [mul_w, hx, hy, hz]
  rfl
theorem appO_w {m : Mx} {x y : Int} (hm : okM (wM m) = true) (hx : inRange x = true) (hy : inRange y = true) (ha : inRange (x * m.a + y * m.c + m.e) = true) (hb : inRange (x * m.b + y * m.d + m.f) = true) : appO (wM m) x y = true := by
  unfold appO
  rw [(app_w m x y).1, (app_w m x y).2, hm, hx, hy, ha, hb]
  rfl
/-- Where a point goes stays small. -/
theorem Small.app {m : Mx} {r t u x y : Int} (h : Small m r t) (hx : Le x u) (hy : Le y u) (hr : 0 ≤ r) (hu : 0 ≤ u) : Le (x * m.a + y * m.c + m.e) (u * r + u * r + t) ∧ Le (x * m.b + y * m.d + m.f) (u * r + u * r + t) := by
  obtain ⟨h1, h2, h3, h4, h5, h6⟩ := h
  exact ⟨((hx.mul h1 hu hr).add (hy.mul h3 hu hr)).add h5, ((hx.mul h2 hu hr).add (hy.mul h4 hu hr)).add h6⟩

/-- Coefficients of at most 2000000: the product is in range. -/
def Flat (m : Mx) : Prop := Le m.a 2000000 ∧ Le m.b 2000000 ∧ Le m.c 2000000 ∧ Le m.d 2000000 ∧ Le m.e 2000000 ∧ Le m.f 2000000
theorem flat_d4 {a b c d : Int} (h1 : Le a 2000000) (h2 : Le b 2000000) (h3 : Le c 2000000) (h4 : Le d 2000000) : inRange (d4 a b c d) = true := by
  have h := (h1.mul h2 (by decide) (by decide)).add (h3.mul h4 (by decide) (by decide))
  unfold Le at h
  have := d4_le (a := a) (b := b) (c := c) (d := d) (m := 1073741824) (by omega) (by omega)
  exact inRange_mk this.1 this.2
theorem flat_d6 {a b c d e : Int} (h1 : Le a 2000000) (h2 : Le b 2000000) (h3 : Le c 2000000) (h4 : Le d 2000000) (h5 : Le e 2000000) : inRange (d6 a b c d e) = true := by
  have h := (h1.mul h2 (by decide) (by decide)).add (h3.mul h4 (by decide) (by decide))
  unfold Le at h h5
  have := d6_le (a := a) (b := b) (c := c) (d := d) (e := e) (m := 1073741824) (by omega) (by omega)
  exact inRange_mk this.1 this.2
theorem Flat.ok {m : Mx} (h : Flat m) : okM m = true := by
  obtain ⟨h1, h2, h3, h4, h5, h6⟩ := h
  exact okM_mk (h1.ok (by decide)) (h2.ok (by decide)) (h3.ok (by decide)) (h4.ok (by decide)) (h5.ok (by decide)) (h6.ok (by decide))
theorem Flat.mul {x y : Mx} (h : Flat x) (k : Flat y) : mulO x y = true := by
  have h0 := h.ok
  have k0 := k.ok
  obtain ⟨h1, h2, h3, h4, h5, h6⟩ := h
  obtain ⟨k1, k2, k3, k4, k5, k6⟩ := k
  unfold mulO
  rw [h0, k0, okM_mk (m := mulM x y) (flat_d4 h1 k1 h2 k3) (flat_d4 h1 k2 h2 k4) (flat_d4 h3 k1 h4 k3) (flat_d4 h3 k2 h4 k4) (flat_d6 h5 k1 h6 k3 k5) (flat_d6 h5 k2 h6 k4 k6)]
  rfl
theorem Flat.app {m : Mx} {x y : Int} (h : Flat m) (hx : Le x 2000000) (hy : Le y 2000000) : appO m x y = true := by
  have h0 := h.ok
  obtain ⟨h1, h2, h3, h4, h5, h6⟩ := h
  unfold appO
  rw [h0, hx.ok (by decide), hy.ok (by decide), show inRange (appA m x y) = true from flat_d6 hx h1 hy h3 h5, show inRange (appB m x y) = true from flat_d6 hx h2 hy h4 h6]
  rfl
end Go.Proofs.YtbagmjedkcipgaaDoor.Mat
