/-
  PLAIN: parts of texts, as lists; the shortest part that decides.
-/
import Derived.Test.YtonekgefegfapaaGreatGx
namespace Go.Proofs.YtonekgefegfapaaGreat
open Go.RowKit

/-- A part of a text, as a list. -/
def partL (f m : Nat) (t : List Int) : List Int := (t.drop f).take m
theorem partL_at (f m : Nat) (t : List Int) (i : Nat) : (partL f m t)[i]? = if i < m then t[f + i]? else none := by
  unfold partL
  rw [List.getElem?_take, List.getElem?_drop]
theorem partX_at {f m : Nat} {t : List Int} {i : Nat} : partX t f m i = ((partL f m t)[i]?).getD (-1) := by
  rw [partL_at]
  unfold partX
  by_cases h : i < m ∧ f + i < t.length
  · rw [if_pos h, if_pos h.1, List.getD_eq_getElem?_getD, List.getElem?_eq_getElem h.2]
    rfl
  · rw [if_neg h]
    by_cases h1 : i < m
    · rw [if_pos h1, List.getElem?_eq_none (by omega)]
      rfl
    · rw [if_neg h1]
      rfl
theorem partL_in {f m : Nat} {t : List Int} {x : Int} (h : x ∈ partL f m t) : x ∈ t := List.mem_of_mem_drop (List.mem_of_mem_take h)
theorem partX_same {f m : Nat} {t u : List Int} (hm : m ≤ 5) (ht : ∀ x ∈ t, 0 ≤ x) (hu : ∀ x ∈ u, 0 ≤ x) : partP f m t = partP f m u ↔ partL f m t = partL f m u := by
  constructor
  · intro h
    have h5 : ∀ i, i < 5 → partX t f m i = partX u f m i := fun i hi => by
      unfold partP at h
      injection h with h0 h1 h2 h3 h4
      rcases i with _ | _ | _ | _ | _ | i
      · exact h0
      · exact h1
      · exact h2
      · exact h3
      · exact h4
      · omega
    apply List.ext_getElem?
    intro i
    by_cases hi : i < m
    · have h := h5 i (by omega)
      rw [partX_at, partX_at] at h
      cases h1 : (partL f m t)[i]? with
      | none =>
        cases h2 : (partL f m u)[i]? with
        | none => rfl
        | some y =>
          rw [h1, h2] at h
          have := hu y (partL_in (List.mem_of_getElem? h2))
          simp only [Option.getD_none, Option.getD_some] at h
          omega
      | some x =>
        have hx := ht x (partL_in (List.mem_of_getElem? h1))
        cases h2 : (partL f m u)[i]? with
        | none =>
          rw [h1, h2] at h
          simp only [Option.getD_none, Option.getD_some] at h
          omega
        | some y =>
          rw [h1, h2] at h
          simp only [Option.getD_some] at h
          rw [h]
    · rw [partL_at, partL_at, if_neg hi, if_neg hi]
  · intro h
    have e : partX t f m = partX u f m := by
      funext i
      rw [partX_at, partX_at, h]
    unfold partP
    rw [e]
theorem nodup_map {α β γ : Type} {f : α → β} {g : α → γ} : ∀ {l : List α}, (∀ x ∈ l, ∀ y ∈ l, f x = f y ↔ g x = g y) → ((l.map f).Nodup ↔ (l.map g).Nodup)
  | [], _ => by simp
  | x :: l, h => by
    rw [List.map_cons, List.map_cons, List.nodup_cons, List.nodup_cons, nodup_map fun y hy z hz => h y (List.mem_cons_of_mem _ hy) z (List.mem_cons_of_mem _ hz)]
    have : f x ∈ l.map f ↔ g x ∈ l.map g := by
      rw [List.mem_map, List.mem_map]
      constructor
      · rintro ⟨y, hy, e⟩
        exact ⟨y, hy, (h y (List.mem_cons_of_mem _ hy) x (List.mem_cons_self ..)).1 e⟩
      · rintro ⟨y, hy, e⟩
        exact ⟨y, hy, (h y (List.mem_cons_of_mem _ hy) x (List.mem_cons_self ..)).2 e⟩
    rw [this]
/-- A part tells texts apart, by its lists. -/
def decL (ts : List (List Int)) (f m : Nat) : Bool := decide (ts.map (partL f m)).Nodup
theorem decL_same {ts : List (List Int)} {f m : Nat} (hm : m ≤ 5) (h : ∀ t ∈ ts, ∀ x ∈ t, 0 ≤ x) : decL ts f m = decB ts f m := by
  unfold decL decB
  rw [decide_eq_decide]
  exact (nodup_map fun t ht u hu => partX_same hm (h t ht) (h u hu)).symm
/-- What a look at each pair of texts says. -/
def Apart (ts : List (List Int)) (f m n : Nat) : Prop := ∀ i j t u, i < j → j < n → ts[i]? = some t → ts[j]? = some u → ¬ partL f m t = partL f m u
theorem apart_none (ts : List (List Int)) (f m : Nat) : Apart ts f m 0 := fun _ _ _ _ _ h => absurd h (Nat.not_lt_zero _)
theorem apart_step {ts : List (List Int)} {f m n : Nat} {t : List Int} (h : Apart ts f m n) (ht : ts[n]? = some t) (hn : ∀ i u, i < n → ts[i]? = some u → ¬ partL f m u = partL f m t) : Apart ts f m (n + 1) := by
  intro i j a b hij hj ha hb
  rcases Nat.lt_or_ge j n with h1 | h1
  · exact h i j a b hij h1 ha hb
  · obtain rfl : j = n := by omega
    rw [ht] at hb
    obtain rfl := Option.some.inj hb
    exact hn i a hij ha
theorem apart_all {ts : List (List Int)} {f m : Nat} : decL ts f m = true ↔ Apart ts f m ts.length := by
  unfold decL
  rw [decide_eq_true_eq, nodup_iff_at]
  constructor
  · intro h i j t u hij _ ht hu e
    exact h i j (partL f m t) hij (by rw [List.getElem?_map, ht]; rfl) (by rw [List.getElem?_map, hu, e]; rfl)
  · intro h i j x hij hi hj
    rw [List.getElem?_map, Option.map_eq_some_iff] at hi hj
    obtain ⟨t, ht, rfl⟩ := hi
    obtain ⟨u, hu, e⟩ := hj
    exact h i j t u hij (List.getElem?_eq_some_iff.1 hu).1 ht hu e.symm
theorem decL_pair {ts : List (List Int)} {f m i j : Nat} {t u : List Int} (hij : i < j) (ht : ts[i]? = some t) (hu : ts[j]? = some u) (e : partL f m t = partL f m u) : decL ts f m = false := by
  cases h : decL ts f m with
  | false => rfl
  | true => exact absurd e (apart_all.1 h i j t u hij (List.getElem?_eq_some_iff.1 hu).1 ht hu)
/-- A part that begins behind all texts decides only if each part of no letters does. -/
theorem dec_late {ts : List (List Int)} {m : Nat} (h5 : ∀ t ∈ ts, t.length ≤ 5) (h : decL ts 5 m = true) (f m' : Nat) : decL ts f m' = true := by
  rcases ts with _ | ⟨t, _ | ⟨u, ts⟩⟩
  · rfl
  · simp [decL]
  · have := decL_pair (ts := t :: u :: ts) (f := 5) (m := m) (i := 0) (j := 1) (t := t) (u := u) (by omega) rfl rfl (by
      unfold partL
      rw [List.drop_eq_nil_of_le (h5 t (by simp)), List.drop_eq_nil_of_le (h5 u (by simp))])
    rw [h] at this
    cases this
end Go.Proofs.YtonekgefegfapaaGreat
