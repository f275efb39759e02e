/-
  What the map of the operators holds at a key.
-/
import Derived.Test.YtmpalhffmgiodaaDoorFldM
namespace Go.Proofs.YtmpalhffmgiodaaDoor

theorem sig_atp (p : List UInt8 × List UInt8) (hp : p ∈ sigs) (zd : DataW Unit) : (sigD Unit).atKey (.string p.1) zd = .lit (.string p.2) := by
  simp only [sigs, List.mem_cons, List.not_mem_nil, or_false] at hp
  rcases hp with rfl | rfl | rfl | rfl | rfl | rfl | rfl | rfl | rfl | rfl | rfl | rfl | rfl | rfl <;> kernel_rfl
def sigE : List (Lit × DataW Unit) := match sigD Unit with | .map e => e | _ => []
theorem sigE_keys : (sigE.all fun q => match q.1 with | .string a => (sigs.map (·.1)).contains a | _ => false) = true := by decide +kernel
theorem sigD_eq : sigD Unit = .map sigE := by kernel_rfl
/-- What reads as an entry is one of the list's. -/
theorem sig_at {k n : List UInt8} (h : ∀ zd, (sigD Unit).atKey (.string k) zd = .lit (.string n)) : (k, n) ∈ sigs := by
  by_cases hk : ∃ p ∈ sigs, p.1 = k
  · obtain ⟨p, hp, rfl⟩ := hk
    have h1 := (sig_atp p hp .nil).symm.trans (h .nil)
    injection h1 with h1
    injection h1 with h1
    rw [← h1]
    exact hp
  · exfalso
    have hz : (sigD Unit).atKey (.string k) .nil = .nil := by
      rw [sigD_eq]
      have hf : sigE.find? (fun p => p.1.sameKey (.string k)) = none := by
        rw [List.find?_eq_none]
        intro q hq
        have h1 := List.all_eq_true.1 sigE_keys q hq
        obtain ⟨q1, q2⟩ := q
        cases q1 with
        | string a =>
          have h2 : (sigs.map (·.1)).contains a = true := h1
          have h3 : a ∈ sigs.map (·.1) := by simpa using h2
          obtain ⟨p, hp, e⟩ := List.mem_map.1 h3
          have hak : a ≠ k := fun e2 => hk ⟨p, hp, e.trans e2⟩
          show ¬ (a == k) = true
          simpa using hak
        | _ => cases h1
      unfold DataW.atKey
      simp only [hf]
    have := hz.symm.trans (h .nil)
    cases this
/-- One entry a key. -/
theorem sigs_one {p q : List UInt8 × List UInt8} (hp : p ∈ sigs) (hq : q ∈ sigs) (h : p.1 = q.1) : p = q := by
  have h1 : (sigs.all fun p => sigs.all fun q => !decide (p.1 = q.1) || decide (p = q)) = true := by decide +kernel
  have h2 := List.all_eq_true.1 (List.all_eq_true.1 h1 p hp) q hq
  rw [decide_eq_true h] at h2
  simpa using h2
end Go.Proofs.YtmpalhffmgiodaaDoor
