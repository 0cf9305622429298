/-
  PLAIN: a land one of whose stations is another one at the same place.
-/
import Derived.Test.YtojbdmdjepgpjaaUp
namespace Go.Proofs.Ytojbdmdjepgpjaa
open Go.RowKit

theorem map_set_same {α β : Type} {f : α → β} {l : List α} {i : Nat} {s s' : α} (hs : l[i]? = some s) (hf : f s' = f s) : (l.set i s').map f = l.map f := by
  obtain ⟨hi, rfl⟩ := List.getElem?_eq_some_iff.1 hs
  rw [List.map_set, hf]
  have : (l.map f)[i]'(by simpa using hi) = f l[i] := by simp
  rw [← this, List.set_getElem_self]
theorem err_parts {L : Ld} (he : errI L = 0) : exB L = false ∧ validB L = true := by
  unfold errI at he
  cases hx : exB L with
  | true => rw [hx] at he; simp at he
  | false =>
    cases hv : validB L with
    | true => exact ⟨rfl, rfl⟩
    | false => rw [hx, hv] at he; simp at he
theorem err_of {L : Ld} (h1 : exB L = false) (h2 : validB L = true) : errI L = 0 := by unfold errI; rw [h1, h2]; rfl
/-- The land with another station i. -/
def setSt (L : Ld) (i : Nat) (s : St) : Ld := ⟨L.st.set i s, L.rg, L.cs, L.sn⟩
section
variable {L : Ld} {i : Nat} {s s' : St}
theorem err_set (hs : L.st[i]? = some s) (hx : s'.x = s.x) (hy : s'.y = s.y) (hb : stB s' = true) (he : errI L = 0) : errI (setSt L i s') = 0 := by
  obtain ⟨h1, h2⟩ := err_parts he
  refine err_of ?_ ?_
  · rw [← h1]
    simp only [exB, setSt, List.length_set]
    rfl
  · have ha : apartB (L.st.set i s') = apartB L.st := by
      unfold apartB
      rw [map_set_same hs (by rw [hx, hy])]
    have hl : (L.st.set i s').all stB = true := by
      rw [List.all_eq_true]
      intro y hy'
      rcases List.mem_or_eq_of_mem_set hy' with h | h
      · simp only [validB, Bool.and_eq_true, List.all_eq_true] at h2
        exact h2.1.1.1.1.2 y h
      · rw [h]; exact hb
    have hw : L.st.all stB = true := by
      simp only [validB, Bool.and_eq_true] at h2
      exact h2.1.1.1.1.2
    rw [← h2]
    simp only [validB, setSt, List.length_set, ha, hl, hw]
    rfl
theorem stAt_set (hs : L.st[i]? = some s) : stAt (setSt L i s') (i : Int) = s' := by
  have hi := (List.getElem?_eq_some_iff.1 hs).1
  simp [stAt, setSt, hi]
theorem stAt_other {j : Nat} (hj : i ≠ j) : stAt (setSt L i s') (j : Int) = stAt L (j : Int) := by
  simp [stAt, setSt, List.getElem?_set_ne hj]
theorem stAt_this (hs : L.st[i]? = some s) : stAt L (i : Int) = s := by simp [stAt, hs]
/-- With two mirrors a station reaches no fewer ones. -/
theorem free_mirror {j : Nat} (hs : L.st[i]? = some s) (hj : i ≠ j) {k h : Int} (hf : freeB L i j k h = true) : freeB (setSt L i ⟨s.x, s.y, s.z, 2⟩) i j k h = true := by
  have e1 := stAt_set (s' := ⟨s.x, s.y, s.z, 2⟩) hs
  have e2 := stAt_other (L := L) (s' := ⟨s.x, s.y, s.z, 2⟩) hj
  have e3 := stAt_this hs
  have er : ridgesI (setSt L i ⟨s.x, s.y, s.z, 2⟩) i j = ridgesI L i j := by
    unfold ridgesI
    rw [e1, e2, e3]
    rfl
  have ec : cloudsI (setSt L i ⟨s.x, s.y, s.z, 2⟩) i j k h = cloudsI L i j k h := by
    unfold cloudsI
    rw [e1, e2, e3]
    rfl
  have es : snAt (setSt L i ⟨s.x, s.y, s.z, 2⟩) h = snAt L h := rfl
  unfold freeB whyI at hf ⊢
  rw [er, ec, es, e1]
  have hm : ((2 : Int) == 1) = false := by decide
  rw [hm, Bool.and_false]
  by_cases hu : (snAt L h).u ≤ 0
  · rw [if_pos hu] at hf; simp at hf
  · rw [if_neg hu] at hf ⊢
    rw [if_neg (by simp)]
    by_cases hb : (behindL L i j h && (stAt L i).m == 1) = true
    · rw [if_pos hb] at hf; simp at hf
    · rw [if_neg hb] at hf
      exact hf
end

end Go.Proofs.Ytojbdmdjepgpjaa
