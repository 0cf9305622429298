/-
  PLAIN: numbers below a bound that pass a test, one list within another; the cases in which a station cannot flash.
-/
import Derived.Test.YtojbdmdjepgpjaaTh
namespace Go.Proofs.Ytojbdmdjepgpjaa
open Go.RowKit

theorem mem_uptoF {p : Nat → Bool} {n : Nat} {x : Int} : x ∈ uptoF p n ↔ ∃ k : Nat, k < n ∧ p k = true ∧ x = (k : Int) := by
  unfold uptoF
  simp only [List.mem_map, List.mem_filter, List.mem_range]
  constructor
  · rintro ⟨k, ⟨h1, h2⟩, rfl⟩
    exact ⟨k, h1, h2, rfl⟩
  · rintro ⟨k, h1, h2, rfl⟩
    exact ⟨k, ⟨h1, h2⟩, rfl⟩
theorem within_iff {l m : List Int} : withinB l m = true ↔ ∀ x ∈ l, x ∈ m := by
  unfold withinB
  simp [List.all_eq_true, List.any_eq_true]
theorem within_one {t n : Nat} {p : Nat → Bool} (ht : t < n) : withinB [(t : Int)] (uptoF p n) = p t := by
  rw [Bool.eq_iff_iff, within_iff]
  constructor
  · intro h
    obtain ⟨k, _, hp, e⟩ := mem_uptoF.1 (h _ (List.mem_singleton.2 rfl))
    obtain rfl : t = k := by omega
    exact hp
  · intro hp x hx
    rw [List.mem_singleton.1 hx]
    exact mem_uptoF.2 ⟨t, ht, hp, rfl⟩
theorem within_upto {p q : Nat → Bool} {n : Nat} (h : ∀ k, k < n → p k = true → q k = true) : withinB (uptoF p n) (uptoF q n) = true := by
  rw [within_iff]
  intro x hx
  obtain ⟨k, hk, hp, rfl⟩ := mem_uptoF.1 hx
  exact mem_uptoF.2 ⟨k, hk, h k hk hp, rfl⟩
theorem uptoF_nil {p : Nat → Bool} {n : Nat} : uptoF p n = [] ↔ ∀ k, k < n → p k = false := by
  constructor
  · intro h k hk
    cases hp : p k with
    | false => rfl
    | true =>
      have := mem_uptoF.2 ⟨k, hk, hp, rfl⟩
      rw [h] at this
      cases this
  · intro h
    refine List.eq_nil_iff_forall_not_mem.2 fun x hx => ?_
    obtain ⟨k, hk, hp, _⟩ := mem_uptoF.1 hx
    rw [h k hk] at hp
    cases hp
theorem uptoF_first {p : Nat → Bool} {n : Nat} (h : uptoF p n ≠ []) : ∃ k : Nat, k < n ∧ (uptoF p n).headD 0 = (k : Int) ∧ p k = true ∧ ∀ j, j < k → p j = false := by
  have hd : (uptoF p n).headD 0 ∈ uptoF p n := by
    cases hu : uptoF p n with
    | nil => exact absurd hu h
    | cons a l => simp
  obtain ⟨k, hk, hp, e⟩ := mem_uptoF.1 hd
  refine ⟨k, hk, e, hp, fun j hj => ?_⟩
  cases hq : p j with
  | false => rfl
  | true =>
    have := uptoF_head p n _ (mem_uptoF.2 ⟨j, by omega, hq, rfl⟩)
    omega
theorem stuck_nil {L : Ld} {a b h : Int} : stuckI L a b h = [] ↔ ∀ k : Nat, k < L.cs.length → freeB L a b k h = true := by
  unfold stuckI
  rw [uptoF_nil]
  exact forall_congr' fun k => forall_congr' fun _ => by simp
theorem stuck_first {L : Ld} {a b h : Int} (hs : stuckI L a b h ≠ []) : ∃ k : Nat, k < L.cs.length ∧ (stuckI L a b h).headD 0 = (k : Int) ∧ freeB L a b k h = false ∧ ∀ j : Nat, j < k → freeB L a b j h = true := by
  obtain ⟨k, h1, h2, h3, h4⟩ := uptoF_first hs
  refine ⟨k, h1, h2, by simpa using h3, fun j hj => by simpa using h4 j hj⟩

end Go.Proofs.Ytojbdmdjepgpjaa
