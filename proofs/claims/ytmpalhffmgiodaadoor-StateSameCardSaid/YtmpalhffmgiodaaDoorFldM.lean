/-
  Plain mathematics of ops.Takes: the names of each entry, and which entry has a name. No walk in this text.
-/
import Derived.Test.YtmpalhffmgiodaaDoorFldB
namespace Go.Proofs.YtmpalhffmgiodaaDoor

/-- The names of a string of names. -/
def wordsL (l : List UInt8) : List (List UInt8) := (flds l).map fun x => (l.drop x.1).take (x.2 - x.1)
/-- The letters of the operands that an operator requires; a question mark if there is no such operator. -/
def takesL (name : List UInt8) : List UInt8 := match sigs.find? (fun p => (wordsL p.2).contains name) with | some p => p.1 | none => [63]
theorem ext_list (s : ByteArray) (a b : Nat) : (s.extract a b).data.toList = (s.data.toList.drop a).take (b - a) := by
  rw [ByteArray.data_extract, Array.toList_extract]
theorem word_in {s name : ByteArray} {x : Nat × Nat} (hx : x ∈ flds s.data.toList) (h : s.extract x.1 x.2 = name) : name.data.toList ∈ wordsL s.data.toList := by
  unfold wordsL
  exact List.mem_map.2 ⟨x, hx, by rw [← ext_list, h]⟩
theorem word_out {s name : ByteArray} (h : ∀ x ∈ flds s.data.toList, s.extract x.1 x.2 ≠ name) : name.data.toList ∉ wordsL s.data.toList := fun hm => by
  unfold wordsL at hm
  obtain ⟨x, hx, e⟩ := List.mem_map.1 hm
  rw [← ext_list] at e
  refine h x hx ?_
  have e2 : (s.extract x.1 x.2).data = name.data := Array.toList_inj.1 e
  cases hh : s.extract x.1 x.2
  cases name
  rw [hh] at e2
  simp at e2
  rw [e2]
theorem sigs_ascii : (sigs.all fun p => p.2.all fun b => decide (b.toNat < 128)) = true := by decide +kernel
theorem sigs_short : (sigs.all fun p => decide (p.2.length ≤ 1000)) = true := by decide +kernel
/-- No name stands in two entries. -/
theorem sigs_apart : (sigs.all fun p => (wordsL p.2).all fun x => sigs.all fun q => !(wordsL q.2).contains x || decide (q.1 = p.1)) = true := by decide +kernel
theorem takes_hit {p : List UInt8 × List UInt8} (hp : p ∈ sigs) {name : List UInt8} (hn : name ∈ wordsL p.2) : takesL name = p.1 := by
  unfold takesL
  cases h : sigs.find? (fun p => (wordsL p.2).contains name) with
  | none =>
    have := List.find?_eq_none.1 h p hp
    simp [hn] at this
  | some q =>
    have hq := List.mem_of_find?_eq_some h
    have hc := List.find?_some h
    have h1 := List.all_eq_true.1 (List.all_eq_true.1 (List.all_eq_true.1 sigs_apart p hp) name hn) q hq
    simp only [Bool.or_eq_true, Bool.not_eq_true', decide_eq_true_eq] at h1
    rcases h1 with h1 | h1
    · have hc' : (wordsL q.2).contains name = true := hc
      rw [h1] at hc'
      cases hc'
    · exact h1
theorem takes_miss {name : List UInt8} (h : ∀ p ∈ sigs, name ∉ wordsL p.2) : takesL name = [63] := by
  unfold takesL
  rw [List.find?_eq_none.2 (fun p hp => by simp [h p hp])]
theorem takes_q : takesL [113] = [] ∧ takesL [81] = [] ∧ takesL [119] = [110] ∧ takesL [74] = [110] ∧ takesL [108] = [110, 110] ∧ takesL [114, 103] = [110, 110, 110] := by decide +kernel
end Go.Proofs.YtmpalhffmgiodaaDoor
