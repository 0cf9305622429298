/-
  PLAIN: what a look at each letter of a code, one after the other, says of its error. WALKS of the law's Thin and Code, the reference's Fault, IsText and Signs. No condition.
-/
import Derived.Test.YtonekgefegfapaaGreatGw
namespace Go.Proofs.YtonekgefegfapaaGreat
open Go.RowKit

theorem nodup_iff_at {α : Type} {l : List α} : l.Nodup ↔ ∀ (i j : Nat) (x : α), i < j → l[i]? = some x → ¬ l[j]? = some x := by
  unfold List.Nodup
  rw [List.pairwise_iff_getElem]
  constructor
  · intro h i j x hij hi hj
    obtain ⟨h1, e1⟩ := List.getElem?_eq_some_iff.1 hi
    obtain ⟨h2, e2⟩ := List.getElem?_eq_some_iff.1 hj
    exact h i j h1 h2 hij (e1.trans e2.symm)
  · intro h i j h1 h2 hij e
    exact h i j l[i] hij (List.getElem?_eq_getElem h1) (by rw [List.getElem?_eq_getElem h2, e])
/-- What has been seen of the first letters of a code. -/
def Seen (l : List ByteArray) (k : Nat) : Prop := (∀ j s, j < k → l[j]? = some s → fitB s = true ∧ flashB s = true) ∧ ∀ i j s, i < j → j < k → l[i]? = some s → ¬ l[j]? = some s
theorem seen_none (l : List ByteArray) : Seen l 0 := ⟨fun _ _ h => absurd h (Nat.not_lt_zero _), fun _ _ _ _ h => absurd h (Nat.not_lt_zero _)⟩
theorem seen_step {l : List ByteArray} {k : Nat} {s : ByteArray} (h : Seen l k) (hs : l[k]? = some s) (h1 : fitB s = true) (h2 : flashB s = true) (h3 : ∀ j, j < k → ¬ l[j]? = some s) : Seen l (k + 1) := by
  refine ⟨fun j t hj ht => ?_, fun i j t hij hj hi ht => ?_⟩
  · rcases Nat.lt_or_ge j k with hk | hk
    · exact h.1 j t hk ht
    · obtain rfl : j = k := by omega
      rw [hs] at ht
      obtain rfl := Option.some.inj ht
      exact ⟨h1, h2⟩
  · rcases Nat.lt_or_ge j k with hk | hk
    · exact h.2 i j t hij hk hi ht
    · obtain rfl : j = k := by omega
      rw [hs] at ht
      obtain rfl := Option.some.inj ht
      exact h3 i hij hi
theorem seen_all {l : List ByteArray} (h : Seen l l.length) (h0 : 0 < l.length) : codeB l = true := by
  have hn : l.Nodup := nodup_iff_at.2 fun i j s hij hi hj => h.2 i j s hij (List.getElem?_eq_some_iff.1 hj).1 hi hj
  have hf : ∀ s ∈ l, fitB s = true ∧ flashB s = true := fun s hs => by
    obtain ⟨j, hj⟩ := List.mem_iff_getElem?.1 hs
    exact h.1 j s (List.getElem?_eq_some_iff.1 hj).1 hj
  unfold codeB
  rw [decide_eq_true h0, decide_eq_true hn, List.all_eq_true.2 fun s hs => (hf s hs).1, List.all_eq_true.2 fun s hs => (hf s hs).2]
  rfl
theorem code_fit {l : List ByteArray} {k : Nat} {s : ByteArray} (hs : l[k]? = some s) (h : fitB s = false) : codeB l = false := by
  have : l.all fitB = false := by
    rw [List.all_eq_false]
    exact ⟨s, List.mem_of_getElem? hs, by rw [h]; simp⟩
  unfold codeB
  rw [this]
  simp
theorem code_flash {l : List ByteArray} {k : Nat} {s : ByteArray} (hs : l[k]? = some s) (h : flashB s = false) : codeB l = false := by
  have : l.all flashB = false := by
    rw [List.all_eq_false]
    exact ⟨s, List.mem_of_getElem? hs, by rw [h]; simp⟩
  unfold codeB
  rw [this]
  simp
theorem code_twice {l : List ByteArray} {j k : Nat} {s : ByteArray} (hs : l[k]? = some s) (hj : l[j]? = some s) (h : j < k) : codeB l = false := by
  have : ¬ l.Nodup := fun hn => nodup_iff_at.1 hn j k s h hj hs
  unfold codeB
  rw [decide_eq_false this]
  simp
theorem flash_iff (c : UInt8) : hasB [46, 45] c = true ↔ c = 46 ∨ c = 45 := by
  unfold hasB
  simp only [Lib.indexByte]
  by_cases h1 : c = 46
  · subst h1
    simp
  by_cases h2 : c = 45
  · subst h2
    simp
  have e1 : ((46 : UInt8) == c) = false := by simpa using fun h => h1 (Eq.symm h)
  have e2 : ((45 : UInt8) == c) = false := by simpa using fun h => h2 (Eq.symm h)
  simp [e1, e2, h1, h2]
/-- A list of at most 9 letters of at most 9 bytes. -/
def thinB (l : List ByteArray) : Bool := decide (l.length ≤ 9) && l.all fun s => decide (s.size ≤ 9)
theorem thin_wide {l : List ByteArray} {k : Nat} {s : ByteArray} (hs : l[k]? = some s) (h : 9 < s.size) : thinB l = false := by
  have : (l.all fun s => decide (s.size ≤ 9)) = false := by
    rw [List.all_eq_false]
    exact ⟨s, List.mem_of_getElem? hs, by simp; omega⟩
  unfold thinB
  rw [this, Bool.and_false]
theorem thin_yes {l : List ByteArray} (h9 : l.length ≤ 9) (h : ∀ j s, j < l.length → l[j]? = some s → s.size ≤ 9) : thinB l = true := by
  unfold thinB
  rw [decide_eq_true h9, Bool.true_and, List.all_eq_true]
  intro s hs
  obtain ⟨j, hj⟩ := List.mem_iff_getElem?.1 hs
  exact decide_eq_true (h j s (List.getElem?_eq_some_iff.1 hj).1 hj)
theorem thin_long {l : List ByteArray} (h9 : 9 < l.length) : thinB l = false := by
  unfold thinB
  rw [decide_eq_false (by omega), Bool.false_and]
end Go.Proofs.YtonekgefegfapaaGreat
