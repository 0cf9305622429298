/-
  PLAIN: what a land without an error, and a call without one, owe.
-/
import Derived.Test.YtpmhhdhkhhlfpaaIx
namespace Go.Proofs.Ytpmhhdhkhhlfpaa
open Go.RowKit

theorem open_ok {L : Ld} {kase hour : Int} {l : List Int} (h : openI L kase hour l = 0) :
    errI L = 0 ∧ (0 ≤ kase ∧ kase < (L.cs.length : Int)) ∧ (0 ≤ hour ∧ hour < (L.sn.length : Int)) ∧ (∀ a ∈ l, 0 ≤ a ∧ a < (L.st.length : Int)) := by
  unfold openI at h
  by_cases he : errI L = 0
  · rw [if_neg (by simp [he])] at h
    by_cases hk : (!(inB 0 ((L.cs.length : Int) - 1) kase) || !(inB 0 ((L.sn.length : Int) - 1) hour) || !(l.all (inB 0 ((L.st.length : Int) - 1)))) = true
    · rw [if_pos hk] at h; cases h
    · simp only [Bool.or_eq_true, Bool.not_eq_true', not_or, Bool.not_eq_false] at hk
      obtain ⟨⟨h1, h2⟩, h3⟩ := hk
      rw [inB_iff] at h1 h2
      refine ⟨he, by omega, by omega, fun a ha => ?_⟩
      have := inB_iff.1 (List.all_eq_true.1 h3 a ha)
      omega
  · rw [if_pos he] at h; exact absurd h he
theorem open_ne {L : Ld} {kase hour a b : Int} (h : openI L kase hour [a, b] = 0) : a ≠ b := by
  intro hab
  subst hab
  have ho := open_ok h
  unfold openI at h
  rw [if_neg (by simp [ho.1])] at h
  split at h
  · cases h
  · simp at h

def SnOK (s : Sn) : Prop := (-100 ≤ s.e ∧ s.e ≤ 100) ∧ (-100 ≤ s.n ∧ s.n ≤ 100) ∧ (-100 ≤ s.u ∧ s.u ≤ 100)
theorem wlB_ok {x : Wl} (h : wlB x = true) : WlOK x := by
  simp only [wlB, Bool.and_eq_true, inB_iff, decide_eq_true_eq] at h
  unfold WlOK
  omega
structure LandOK (L : Ld) : Prop where
  st : ∀ s ∈ L.st, StOK s ∧ 1 ≤ s.m ∧ s.m ≤ 2
  rg : ∀ x ∈ L.rg, WlOK x
  cs : ∀ l ∈ L.cs, ∀ x ∈ l, WlOK x.w
  sn : ∀ s ∈ L.sn, SnOK s
  len : 0 < L.st.length ∧ L.st.length ≤ 6 ∧ L.rg.length ≤ 6 ∧ 0 < L.cs.length ∧ L.cs.length ≤ 4 ∧ 0 < L.sn.length ∧ L.sn.length ≤ 12
theorem land_ok {L : Ld} (h : errI L = 0) : LandOK L := by
  unfold errI at h
  cases hx : exB L with
  | true => rw [hx] at h; simp at h
  | false =>
    cases hv : validB L with
    | false => rw [hx, hv] at h; simp at h
    | true =>
      simp only [exB, Bool.or_eq_false_iff, decide_eq_false_iff_not] at hx
      simp only [validB, Bool.and_eq_true, decide_eq_true_eq] at hv
      obtain ⟨⟨⟨⟨⟨⟨⟨h1, h2⟩, h3⟩, h4⟩, _⟩, h6⟩, h7⟩, h8⟩ := hv
      refine ⟨fun s hs => ?_, fun x hx => ?_, fun l hl x hx => ?_, fun s hs => ?_, by omega⟩
      · have := List.all_eq_true.1 h4 s hs
        simp only [stB, Bool.and_eq_true, inB_iff] at this
        unfold StOK
        omega
      · have := List.all_eq_true.1 h6 x hx
        simp only [rgB, Bool.and_eq_true] at this
        exact wlB_ok this.1
      · have := List.all_eq_true.1 (List.all_eq_true.1 h7 l hl) x hx
        simp only [clB, Bool.and_eq_true] at this
        exact wlB_ok this.1.1.1
      · have := List.all_eq_true.1 h8 s hs
        simp only [snB, Bool.and_eq_true, inB_iff] at this
        unfold SnOK
        omega

def snAt (L : Ld) (i : Int) : Sn := L.sn[i.toNat]?.getD ⟨0, 0, 0⟩
/-- The sun of the hour is behind the station a, for b. -/
def behindL (L : Ld) (a b hour : Int) : Bool := behindI (snAt L hour).e (snAt L hour).n (stAt L a).x (stAt L a).y (stAt L b).x (stAt L b).y
/-- How many mirrors, and the error. -/
def mirI (L : Ld) (a b hour : Int) : Int × Int :=
  if openI L 0 hour [a, b] ≠ 0 then (0, openI L 0 hour [a, b]) else if (snAt L hour).u ≤ 0 then (0, 7) else if behindL L a b hour then (2, 0) else (1, 0)
/-- The rise: the smallest number that lifts the station over all ridges. -/
def lift (s : St) (n : Nat) : St := ⟨s.x, s.y, s.z + n, s.m⟩
def clearB (L : Ld) (s t : St) (n : Nat) : Bool := !(L.rg.any (blocksW (lift s n) t))

end Go.Proofs.Ytpmhhdhkhhlfpaa
