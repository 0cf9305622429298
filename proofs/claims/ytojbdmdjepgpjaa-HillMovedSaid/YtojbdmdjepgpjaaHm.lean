/-
  PLAIN: a station that is lifted: no ridge blocks then that did not block before.
-/
import Derived.Test.YtojbdmdjepgpjaaSe
namespace Go.Proofs.Ytojbdmdjepgpjaa
open Go.RowKit

theorem rg_zero {L : Ld} (he : errI L = 0) : ∀ x ∈ L.rg, WlOK x ∧ x.b = 0 := by
  intro x hx
  refine ⟨(land_ok he).rg x hx, ?_⟩
  have h2 := (err_parts he).2
  simp only [validB, Bool.and_eq_true, List.all_eq_true] at h2
  have := h2.1.1.2 x hx
  simp only [rgB, Bool.and_eq_true, beq_iff_eq] at this
  exact this.2
theorem size_nonneg (n : Int) : 0 ≤ sizeI n := by unfold sizeI; split <;> omega
theorem block_mono {s t : St} {x : Wl} {u v : Nat} (h0 : x.b = 0) (hs : 0 ≤ s.z) (ht : 0 ≤ t.z) (huv : u ≤ v) (h : blocksW (lift s v) t x = true) : blocksW (lift s u) t x = true := by
  unfold blocksW blockI at h ⊢
  simp only [Bool.and_eq_true, decide_eq_true_eq] at h ⊢
  obtain ⟨hc, h1, h2⟩ := h
  have hc' : crossB s.x s.y t.x t.y x.x1 x.y1 x.x2 x.y2 = true := hc
  refine ⟨hc, ?_, ?_⟩
  · rw [h0, Int.zero_mul]
    unfold overP
    rw [show crossB (lift s u).x (lift s u).y t.x t.y x.x1 x.y1 x.x2 x.y2 = true from hc', if_pos rfl]
    have a1 := Int.mul_nonneg (show 0 ≤ (lift s u).z by show 0 ≤ s.z + (u : Int); omega) (size_nonneg (sideI x.x1 x.y1 x.x2 x.y2 t.x t.y))
    have a2 := Int.mul_nonneg ht (size_nonneg (sideI x.x1 x.y1 x.x2 x.y2 (lift s u).x (lift s u).y))
    omega
  · have hq : overQ (lift s u).x (lift s u).y t.x t.y x.x1 x.y1 x.x2 x.y2 = overQ (lift s v).x (lift s v).y t.x t.y x.x1 x.y1 x.x2 x.y2 := rfl
    rw [hq]
    refine Int.le_trans ?_ h2
    unfold overP
    rw [show crossB (lift s u).x (lift s u).y t.x t.y x.x1 x.y1 x.x2 x.y2 = true from hc', show crossB (lift s v).x (lift s v).y t.x t.y x.x1 x.y1 x.x2 x.y2 = true from hc', if_pos rfl, if_pos rfl]
    have a1 := Int.mul_le_mul_of_nonneg_right (show (lift s u).z ≤ (lift s v).z by show s.z + (u : Int) ≤ s.z + (v : Int); omega) (size_nonneg (sideI x.x1 x.y1 x.x2 x.y2 t.x t.y))
    have a2 : t.z * sizeI (sideI x.x1 x.y1 x.x2 x.y2 (lift s u).x (lift s u).y) = t.z * sizeI (sideI x.x1 x.y1 x.x2 x.y2 (lift s v).x (lift s v).y) := rfl
    omega
theorem clear_mono {L : Ld} {s t : St} {u v : Nat} (hr : ∀ x ∈ L.rg, WlOK x ∧ x.b = 0) (hs : 0 ≤ s.z) (ht : 0 ≤ t.z) (huv : u ≤ v) (h : clearB L s t u = true) : clearB L s t v = true := by
  unfold clearB at h ⊢
  rw [Bool.not_eq_true', List.any_eq_false] at h ⊢
  intro x hx hv
  exact h x hx (block_mono (hr x hx).2 hs ht huv hv)
theorem mem_which {α : Type} {p : α → Bool} {l : List α} {n : Int} : n ∈ whichB p l ↔ ∃ k x, l[k]? = some x ∧ p x = true ∧ n = (k : Nat) := by
  show n ∈ uptoF (fun m => (l[m]?.map p).getD false) l.length ↔ _
  rw [mem_uptoF]
  constructor
  · rintro ⟨k, hk, hp, rfl⟩
    cases hx : l[k]? with
    | none => rw [hx] at hp; simp at hp
    | some x => rw [hx] at hp; exact ⟨k, x, hx, by simpa using hp, rfl⟩
  · rintro ⟨k, x, hx, hp, rfl⟩
    exact ⟨k, (List.getElem?_eq_some_iff.1 hx).1, by rw [hx]; simpa using hp, rfl⟩
theorem which_nil {α : Type} {p : α → Bool} {l : List α} : whichB p l = [] ↔ l.any p = false := by
  rw [List.any_eq_false]
  constructor
  · intro h x hx hp
    obtain ⟨k, hk, rfl⟩ := List.getElem_of_mem hx
    have : (k : Int) ∈ whichB p l := mem_which.2 ⟨k, l[k], by simp [hk], by simpa using hp, rfl⟩
    rw [h] at this
    cases this
  · intro h
    refine List.eq_nil_iff_forall_not_mem.2 fun n hn => ?_
    obtain ⟨k, x, hx, hp, _⟩ := mem_which.1 hn
    exact h x (List.mem_of_getElem? hx) hp
theorem which_len {α : Type} {p q : α → Bool} {l : List α} (h : ∀ x ∈ l, p x = true → q x = true) : (whichB p l).length ≤ (whichB q l).length := by
  unfold whichB
  rw [List.length_map, List.length_map, ← List.countP_eq_length_filter, ← List.countP_eq_length_filter]
  refine List.countP_mono_left fun k _ hk => ?_
  cases hx : l[k]? with
  | none => rw [hx] at hk; simp at hk
  | some x =>
    rw [hx] at hk
    simpa using h x (List.mem_of_getElem? hx) (by simpa using hk)
theorem which_mono {α : Type} {p q : α → Bool} {l : List α} (h : ∀ x ∈ l, p x = true → q x = true) : ∀ n ∈ whichB p l, n ∈ whichB q l := by
  intro n hn
  obtain ⟨k, x, hx, hp, rfl⟩ := mem_which.1 hn
  exact mem_which.2 ⟨k, x, hx, h x (List.mem_of_getElem? hx) hp, rfl⟩
section
variable {L : Ld} {i j u : Nat} {s t : St}
theorem lift_zero (s : St) : lift s 0 = s := by unfold lift; simp
theorem lift_ridges (hs : L.st[i]? = some s) (ht : L.st[j]? = some t) (hij : i ≠ j) : ridgesI (setSt L i (lift s u)) i j = whichB (blocksW (lift s u) t) L.rg := by
  unfold ridgesI
  rw [stAt_set hs, stAt_other hij, stAt_this ht]
  rfl
theorem here_ridges (hs : L.st[i]? = some s) (ht : L.st[j]? = some t) : ridgesI L i j = whichB (blocksW (lift s 0) t) L.rg := by
  unfold ridgesI
  rw [stAt_this hs, stAt_this ht, lift_zero]
theorem lift_err (he : errI L = 0) (hs : L.st[i]? = some s) (hu : s.z + (u : Int) ≤ 1000) : errI (setSt L i (lift s u)) = 0 := by
  refine err_set hs rfl rfl ?_ he
  have h := List.all_eq_true.1 (by have := (err_parts he).2; simp only [validB, Bool.and_eq_true] at this; exact this.1.1.1.1.2) s (List.mem_of_getElem? hs)
  simp only [stB, Bool.and_eq_true, inB_iff] at h ⊢
  exact ⟨⟨⟨h.1.1.1, h.1.1.2⟩, by show 0 ≤ s.z + (u : Int) ∧ s.z + (u : Int) ≤ 1000; omega⟩, h.2⟩
/-- The rise: the first number with which no ridge blocks; with all greater ones none does. -/
theorem rise_parts {N n : Nat} (hr : ∀ x ∈ L.rg, WlOK x ∧ x.b = 0) (hs : 0 ≤ s.z) (ht : 0 ≤ t.z) (hf : (List.range N).find? (clearB L s t) = some n) : n < N ∧ clearB L s t n = true ∧ ∀ u, (clearB L s t u = true ↔ n ≤ u) := by
  rw [List.find?_range_eq_some] at hf
  obtain ⟨h1, h2, h3⟩ := hf
  refine ⟨by simpa using h2, h1, fun u => ⟨fun h => ?_, fun h => clear_mono hr hs ht h h1⟩⟩
  rcases Nat.lt_or_ge u n with hlt | hge
  · have := h3 u hlt
    rw [h] at this
    simp at this
  · exact hge
theorem clear_which : clearB L s t u = true ↔ whichB (blocksW (lift s u) t) L.rg = [] := by
  rw [which_nil]
  unfold clearB
  simp
end

end Go.Proofs.Ytojbdmdjepgpjaa
