/-
  PLAIN: the steps of a reader, and the fewest errors, as plain Lean functions over lists of bytes; nothing of the program is imported here.
-/
import Derived.Test.YtonekgefegfapaaGreatPl
import Derived.Lib.Strings
namespace Go.Proofs.YtonekgefegfapaaGreat
open Go.RowKit

abbrev By := List UInt8
/-- Whether a step can go through what is still to be sent; what it writes then; how many signs it goes through; its errors. -/
def needsB (k : Nat) (l : By) : Bool :=
  match k with
  | 0 => decide (0 < l.length)
  | 1 => Lib.hasPrefix l [46] || Lib.hasPrefix l [45]
  | 2 => Lib.hasPrefix l [45]
  | 3 => Lib.hasPrefix l [46, 46]
  | 4 => Lib.hasPrefix l [32]
  | _ => true
def writesL (k : Nat) (l : By) : By :=
  match k with
  | 0 => l.take 1
  | 1 => []
  | 2 => [46, 46]
  | 3 => [45]
  | 4 => []
  | _ => [32]
def takesN (k : Nat) : Nat := match k with
  | 3 => 2
  | 5 => 0
  | _ => 1
def errsN (k : Nat) : Nat := match k with
  | 0 => 0
  | _ => 1
/-- The place after a step, if it can be next. -/
def aftI (S R : By) (p : Nat × Nat) (k : Nat) : Option (Nat × Nat) :=
  if needsB k (S.drop p.1) && Lib.hasPrefix (R.drop p.2) (writesL k (S.drop p.1)) then some (p.1 + takesN k, p.2 + (writesL k (S.drop p.1)).length) else none
theorem hasPrefix_len {l p : By} (h : Lib.hasPrefix l p = true) : p.length ≤ l.length := by
  unfold Lib.hasPrefix at h
  exact (List.isPrefixOf_iff_prefix.1 h).length_le
theorem takes_in {k : Nat} {l : By} (hk : k < 6) (h : needsB k l = true) : takesN k ≤ l.length := by
  rcases k with _ | _ | _ | _ | _ | _ | k
  · have : 0 < l.length := by simpa [needsB] using h
    show 1 ≤ l.length
    omega
  · simp only [needsB, Bool.or_eq_true] at h
    rcases h with h | h <;> simpa [takesN] using hasPrefix_len h
  · simpa [takesN] using hasPrefix_len (p := [45]) (by simpa [needsB] using h)
  · simpa [takesN] using hasPrefix_len (p := [46, 46]) (by simpa [needsB] using h)
  · simpa [takesN] using hasPrefix_len (p := [32]) (by simpa [needsB] using h)
  · simp [takesN]
  · omega
/-- A place after a step lies in both strings, and is further. -/
theorem aftI_in {S R : By} {i j k a c : Nat} (hk : k < 6) (hi : i ≤ S.length) (hj : j ≤ R.length) (h : aftI S R (i, j) k = some (a, c)) : i ≤ a ∧ a ≤ S.length ∧ j ≤ c ∧ c ≤ R.length ∧ i + j < a + c := by
  unfold aftI at h
  by_cases hc : (needsB k (S.drop i) && Lib.hasPrefix (R.drop j) (writesL k (S.drop i))) = true
  · rw [if_pos hc] at h
    simp only [Option.some.injEq, Prod.mk.injEq] at h
    obtain ⟨rfl, rfl⟩ := h
    obtain ⟨h1, h2⟩ := Bool.and_eq_true _ _ ▸ hc
    have t1 := takes_in hk h1
    have t2 := hasPrefix_len h2
    simp only [List.length_drop] at t1 t2
    refine ⟨by omega, by omega, by omega, by omega, ?_⟩
    rcases k with _ | _ | _ | _ | _ | _ | k
    · simp [takesN]; omega
    · simp [takesN]; omega
    · simp [takesN]; omega
    · simp [takesN]; omega
    · simp [takesN]; omega
    · simp [takesN, writesL]
    · omega
  · rw [if_neg hc] at h
    cases h
/-- The steps that can be next, with the places after them. -/
def nextI (S R : By) (p : Nat × Nat) : List (Nat × Nat × Nat) := (List.range 6).filterMap fun k => (aftI S R p k).map fun q => (k, q)
/-- The fewest errors from a place on; 120 if no steps lead to the end. -/
def fewF (S R : By) : Nat → Nat × Nat → Nat
  | 0, p => if p = (S.length, R.length) then 0 else 120
  | f + 1, p => if p = (S.length, R.length) then 0 else (nextI S R p).foldl (fun e x => min e (errsN x.1 + fewF S R f x.2)) 120
theorem fewF_succ (S R : By) (f : Nat) (p : Nat × Nat) : fewF S R (f + 1) p = if p = (S.length, R.length) then 0 else (nextI S R p).foldl (fun e x => min e (errsN x.1 + fewF S R f x.2)) 120 := rfl
def leftN (S R : By) (p : Nat × Nat) : Nat := (S.length - p.1) + (R.length - p.2)
def fewI (S R : By) (p : Nat × Nat) : Nat := fewF S R (leftN S R p) p
theorem nextI_mem {S R : By} {p : Nat × Nat} {x : Nat × Nat × Nat} (h : x ∈ nextI S R p) : x.1 < 6 ∧ aftI S R p x.1 = some x.2 := by
  unfold nextI at h
  simp only [List.mem_filterMap, List.mem_range, Option.map_eq_some_iff] at h
  obtain ⟨k, hk, q, hq, rfl⟩ := h
  exact ⟨hk, hq⟩
theorem foldl_same {α : Type} {f g : Nat → α → Nat} : ∀ (l : List α) (e : Nat), (∀ x ∈ l, ∀ e, f e x = g e x) → l.foldl f e = l.foldl g e
  | [], _, _ => rfl
  | x :: l, e, h => by
    simp only [List.foldl_cons]
    rw [h x (by simp) e]
    exact foldl_same l _ fun y hy => h y (by simp [hy])
theorem fewF_same (S R : By) : ∀ (f g : Nat) (p : Nat × Nat), p.1 ≤ S.length → p.2 ≤ R.length → leftN S R p ≤ f → leftN S R p ≤ g → fewF S R f p = fewF S R g p
  | 0, 0, _, _, _, _, _ => rfl
  | 0, g + 1, p, h1, h2, h3, _ => by
    have e : p = (S.length, R.length) := by
      unfold leftN at h3
      exact Prod.ext (by omega) (by omega)
    simp [fewF, e]
  | f + 1, 0, p, h1, h2, _, h3 => by
    have e : p = (S.length, R.length) := by
      unfold leftN at h3
      exact Prod.ext (by omega) (by omega)
    simp [fewF, e]
  | f + 1, g + 1, p, h1, h2, h3, h4 => by
    unfold fewF
    by_cases e : p = (S.length, R.length)
    · rw [if_pos e, if_pos e]
    · rw [if_neg e, if_neg e]
      refine foldl_same _ _ fun x hx c => ?_
      obtain ⟨k, a, b⟩ := x
      obtain ⟨hk, hq⟩ := nextI_mem hx
      obtain ⟨i, j⟩ := p
      have := aftI_in hk h1 h2 hq
      unfold leftN at h3 h4
      simp only at h3 h4
      rw [fewF_same S R f g (a, b) this.2.1 this.2.2.2.1 (by unfold leftN; simp only; omega) (by unfold leftN; simp only; omega)]
/-- The fewest errors, step by step. -/
theorem fewI_eq {S R : By} {p : Nat × Nat} (h1 : p.1 ≤ S.length) (h2 : p.2 ≤ R.length) (hp : p ≠ (S.length, R.length)) : fewI S R p = (nextI S R p).foldl (fun e x => min e (errsN x.1 + fewI S R x.2)) 120 := by
  unfold fewI
  cases hf : leftN S R p with
  | zero =>
    exfalso
    apply hp
    unfold leftN at hf
    exact Prod.ext (by omega) (by omega)
  | succ f =>
    rw [fewF_succ, if_neg hp]
    refine foldl_same _ _ fun x hx c => ?_
    obtain ⟨k, a, b⟩ := x
    obtain ⟨hk, hq⟩ := nextI_mem hx
    obtain ⟨i, j⟩ := p
    have := aftI_in hk h1 h2 hq
    unfold leftN at hf
    simp only at hf
    exact congrArg (fun z => min c (errsN k + z)) (fewF_same S R f (leftN S R (a, b)) (a, b) this.2.1 this.2.2.2.1 (by unfold leftN; simp only; omega) (Nat.le_refl _))
theorem fewI_end (S R : By) : fewI S R (S.length, R.length) = 0 := by
  unfold fewI leftN
  simp [fewF]
theorem foldl_le {α : Type} {g : α → Nat} : ∀ (l : List α) (e : Nat), l.foldl (fun e x => min e (g x)) e ≤ e
  | [], _ => Nat.le_refl _
  | x :: l, e => Nat.le_trans (foldl_le l (min e (g x))) (Nat.min_le_left _ _)
theorem fewI_le {S R : By} {p : Nat × Nat} (h1 : p.1 ≤ S.length) (h2 : p.2 ≤ R.length) : fewI S R p ≤ 120 := by
  by_cases hp : p = (S.length, R.length)
  · rw [hp, fewI_end]; omega
  · rw [fewI_eq h1 h2 hp]
    exact foldl_le _ _
end Go.Proofs.YtonekgefegfapaaGreat
