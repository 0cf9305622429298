/-
  PLAIN: lands that are changed: one more ridge, other clouds in a case, all places moved or turned; which walls block then, and which stations can flash.
-/
import Derived.Test.YtojbdmdjepgpjaaHm
namespace Go.Proofs.Ytojbdmdjepgpjaa
open Go.RowKit

def addRg (L : Ld) (x : Wl) : Ld := ⟨L.st, L.rg ++ [x], L.cs, L.sn⟩
def setCs (L : Ld) (k : Nat) (l : List Cl) : Ld := ⟨L.st, L.rg, L.cs.set k l, L.sn⟩
section
variable {L : Ld} {a b h : Int}
theorem free_iff {k : Int} : freeB L a b k h = true ↔ 0 < (snAt L h).u ∧ (behindL L a b h && (stAt L a).m == 1) = false ∧ ridgesI L a b = [] ∧ cloudsI L a b k h = [] := by
  unfold freeB whyI
  by_cases h1 : (snAt L h).u ≤ 0
  · rw [if_pos h1]
    simp
    omega
  · rw [if_neg h1]
    have h1' : 0 < (snAt L h).u := by omega
    cases h2 : (behindL L a b h && (stAt L a).m == 1) with
    | true => simp
    | false =>
      rw [if_neg (by simp)]
      by_cases h3 : ridgesI L a b = []
      · rw [if_neg (by simp [h3])]
        by_cases h4 : cloudsI L a b k h = []
        · rw [if_neg (by simp [h4])]
          simp [h1', h3, h4]
        · rw [if_pos h4]
          simp [h4]
      · rw [if_pos h3]
        simp [h3]
theorem which_less {α : Type} {p : α → Bool} {l m : List α} (h : whichB p (l ++ m) = []) : whichB p l = [] := by
  rw [which_nil] at h ⊢
  rw [List.any_append, Bool.or_eq_false_iff] at h
  exact h.1
theorem free_ridge {x : Wl} {k : Int} (hf : freeB (addRg L x) a b k h = true) : freeB L a b k h = true := by
  rw [free_iff] at hf ⊢
  obtain ⟨h1, h2, h3, h4⟩ := hf
  exact ⟨h1, h2, which_less h3, h4⟩
theorem case_this {k : Nat} {l : List Cl} (hk : k < L.cs.length) : cloudsI (setCs L k l) a b (k : Nat) h = whichB (cloudB (stAt L a) (stAt L b) h) l := by
  unfold cloudsI
  have : (setCs L k l).cs[((k : Nat) : Int).toNat]? = some l := by
    simp [setCs, hk]
  rw [this]
  rfl
theorem free_cloud {k : Nat} {l0 : List Cl} {c : Cl} (hl : L.cs[k]? = some l0) (hf : freeB (setCs L k (l0 ++ [c])) a b (k : Nat) h = true) : freeB L a b (k : Nat) h = true := by
  rw [free_iff] at hf ⊢
  obtain ⟨h1, h2, h3, h4⟩ := hf
  rw [case_this (List.getElem?_eq_some_iff.1 hl).1] at h4
  refine ⟨h1, h2, h3, ?_⟩
  unfold cloudsI
  rw [show ((k : Nat) : Int).toNat = k from rfl, hl]
  exact which_less h4
theorem free_none {k : Nat} {c : Int} (hk : k < L.cs.length) (hf : freeB L a b c h = true) : freeB (setCs L k []) a b (k : Nat) h = true := by
  rw [free_iff] at hf ⊢
  obtain ⟨h1, h2, h3, _⟩ := hf
  refine ⟨h1, h2, h3, ?_⟩
  rw [case_this hk]
  rfl
theorem err_case {k : Nat} {l : List Cl} (h4 : l.length ≤ 4) (hl : l.all (clB ((L.sn.length : Int) - 1)) = true) (he : errI L = 0) : errI (setCs L k l) = 0 := by
  obtain ⟨h1, h2⟩ := err_parts he
  refine err_of ?_ ?_
  · unfold exB at h1 ⊢
    rw [Bool.or_eq_false_iff] at h1 ⊢
    refine ⟨?_, ?_⟩
    · have e : (setCs L k l).cs.length = L.cs.length := by simp [setCs]
      rw [e]
      exact h1.1
    have h5 := h1.2
    rw [List.any_eq_false] at h5 ⊢
    intro x hx
    rcases List.mem_or_eq_of_mem_set hx with hm | rfl
    · exact h5 x hm
    · simpa using h4
  · unfold validB at h2 ⊢
    simp only [Bool.and_eq_true] at h2 ⊢
    refine ⟨⟨⟨⟨⟨⟨⟨h2.1.1.1.1.1.1.1, by simpa [setCs] using h2.1.1.1.1.1.1.2⟩, h2.1.1.1.1.1.2⟩, h2.1.1.1.1.2⟩, h2.1.1.1.2⟩, h2.1.1.2⟩, ?_⟩, h2.2⟩
    have h5 := h2.1.2
    rw [List.all_eq_true] at h5 ⊢
    intro x hx
    rcases List.mem_or_eq_of_mem_set hx with hm | rfl
    · exact h5 x hm
    · exact hl
end

section
variable {s t : St} {x : Wl}
theorem size_pos {n : Int} (h : n ≠ 0) : 0 < sizeI n := by unfold sizeI; split <;> omega
/-- What blocks is not below both stations, nor above both. -/
theorem block_between (h : blocksW s t x = true) : min s.z t.z ≤ x.t ∧ x.b ≤ max s.z t.z := by
  unfold blocksW blockI at h
  simp only [Bool.and_eq_true, decide_eq_true_eq] at h
  obtain ⟨hc, h1, h2⟩ := h
  have hs : sideI x.x1 x.y1 x.x2 x.y2 s.x s.y ≠ 0 := by
    intro e
    have hc' := hc
    unfold crossB at hc'
    rw [e, Int.zero_mul] at hc'
    simp at hc'
  unfold overP overQ at h1 h2
  rw [hc, if_pos rfl, if_pos rfl] at h1 h2
  have p1 := size_pos hs
  have p2 := size_nonneg (sideI x.x1 x.y1 x.x2 x.y2 t.x t.y)
  generalize sizeI (sideI x.x1 x.y1 x.x2 x.y2 s.x s.y) = u at *
  generalize sizeI (sideI x.x1 x.y1 x.x2 x.y2 t.x t.y) = v at *
  have a1 := Int.mul_le_mul_of_nonneg_right (show min s.z t.z ≤ s.z by omega) p2
  have a2 := Int.mul_le_mul_of_nonneg_right (show min s.z t.z ≤ t.z by omega) (show 0 ≤ u by omega)
  have a3 := Int.mul_le_mul_of_nonneg_right (show s.z ≤ max s.z t.z by omega) p2
  have a4 := Int.mul_le_mul_of_nonneg_right (show t.z ≤ max s.z t.z by omega) (show 0 ≤ u by omega)
  constructor
  · refine Int.le_of_mul_le_mul_right (show min s.z t.z * (u + v) ≤ x.t * (u + v) from ?_) (show 0 < u + v by omega)
    rw [Int.mul_add]
    omega
  · refine Int.le_of_mul_le_mul_right (show x.b * (u + v) ≤ max s.z t.z * (u + v) from ?_) (show 0 < u + v by omega)
    rw [Int.mul_add (max s.z t.z)]
    omega
theorem which_last {α : Type} {p : α → Bool} {l : List α} {c : α} {m : Int} (hm : m = (l.length : Nat)) : withinB [m] (whichB p (l ++ [c])) = p c := by
  subst hm
  rw [Bool.eq_iff_iff, within_iff]
  constructor
  · intro h
    obtain ⟨k, y, hk, hp, e⟩ := mem_which.1 (h _ (List.mem_singleton.2 rfl))
    obtain rfl : l.length = k := by omega
    simp at hk
    rw [hk]; exact hp
  · intro hp y hy
    rw [List.mem_singleton.1 hy]
    exact mem_which.2 ⟨l.length, c, by simp, hp, rfl⟩
end

/-- All places moved by the same numbers, and turned. -/
def mvSt (e n : Int) (q : Bool) (s : St) : St := if q then ⟨s.y + n, s.x + e, s.z, s.m⟩ else ⟨s.x + e, s.y + n, s.z, s.m⟩
def mvWl (e n : Int) (q : Bool) (x : Wl) : Wl := if q then ⟨x.y1 + n, x.x1 + e, x.y2 + n, x.x2 + e, x.b, x.t⟩ else ⟨x.x1 + e, x.y1 + n, x.x2 + e, x.y2 + n, x.b, x.t⟩
def mvCl (e n : Int) (q : Bool) (c : Cl) : Cl := ⟨mvWl e n q c.w, c.f, c.t⟩
def mvSn (q : Bool) (s : Sn) : Sn := if q then ⟨s.n, s.e, s.u⟩ else s
def mvLd (e n : Int) (q : Bool) (L : Ld) : Ld := ⟨L.st.map (mvSt e n q), L.rg.map (mvWl e n q), L.cs.map (fun l => l.map (mvCl e n q)), L.sn.map (mvSn q)⟩
section
variable {e n : Int} {q : Bool}
theorem side_moved (ax ay bx b_y px py : Int) : sideI (ax + e) (ay + n) (bx + e) (b_y + n) (px + e) (py + n) = sideI ax ay bx b_y px py := by
  unfold sideI
  rw [show bx + e - (ax + e) = bx - ax by omega, show py + n - (ay + n) = py - ay by omega, show b_y + n - (ay + n) = b_y - ay by omega, show px + e - (ax + e) = px - ax by omega]
theorem side_turned (ax ay bx b_y px py : Int) : sideI ay ax b_y bx py px = -sideI ax ay bx b_y px py := by
  unfold sideI
  omega
theorem size_neg (z : Int) : sizeI (-z) = sizeI z := by unfold sizeI; split <;> split <;> omega
theorem block_sides {s t s' t' : St} {x x' : Wl} (hs : s'.z = s.z) (ht : t'.z = t.z) (hb : x'.b = x.b) (hp : x'.t = x.t) (hc : crossB s'.x s'.y t'.x t'.y x'.x1 x'.y1 x'.x2 x'.y2 = crossB s.x s.y t.x t.y x.x1 x.y1 x.x2 x.y2)
    (h1 : sizeI (sideI x'.x1 x'.y1 x'.x2 x'.y2 s'.x s'.y) = sizeI (sideI x.x1 x.y1 x.x2 x.y2 s.x s.y)) (h2 : sizeI (sideI x'.x1 x'.y1 x'.x2 x'.y2 t'.x t'.y) = sizeI (sideI x.x1 x.y1 x.x2 x.y2 t.x t.y)) : blocksW s' t' x' = blocksW s t x := by
  unfold blocksW blockI overP overQ
  rw [hc, h1, h2, hs, ht, hb, hp]
theorem block_moved {s t : St} {x : Wl} : blocksW (mvSt e n q s) (mvSt e n q t) (mvWl e n q x) = blocksW s t x := by
  cases q with
  | false =>
    refine block_sides rfl rfl rfl rfl ?_ ?_ ?_
    · simp only [mvSt, mvWl, Bool.false_eq_true, if_false, crossB, side_moved]
    · simp only [mvSt, mvWl, Bool.false_eq_true, if_false, side_moved]
    · simp only [mvSt, mvWl, Bool.false_eq_true, if_false, side_moved]
  | true =>
    have h : ∀ ax ay bx b_y px py : Int, sideI (ay + n) (ax + e) (b_y + n) (bx + e) (py + n) (px + e) = -sideI ax ay bx b_y px py := fun ax ay bx b_y px py => by
      rw [side_turned, side_moved]
    refine block_sides rfl rfl rfl rfl ?_ ?_ ?_
    · simp only [mvSt, mvWl, if_true, crossB, h, Int.neg_mul_neg]
    · simp only [mvSt, mvWl, if_true, h, size_neg]
    · simp only [mvSt, mvWl, if_true, h, size_neg]
theorem which_map {α β : Type} {p : α → Bool} {r : β → Bool} {f : α → β} {l : List α} (h : ∀ x, r (f x) = p x) : whichB r (l.map f) = whichB p l := by
  unfold whichB
  rw [List.length_map]
  congr 1
  refine List.filter_congr fun i _ => ?_
  rw [List.getElem?_map]
  cases l[i]? with
  | none => rfl
  | some x => simp [h]
variable {L : Ld} {i j : Nat}
theorem st_moved (hi : i < L.st.length) : stAt (mvLd e n q L) (i : Nat) = mvSt e n q (stAt L (i : Nat)) := by
  simp [stAt, mvLd, hi]
theorem sn_moved {h : Nat} (hh : h < L.sn.length) : snAt (mvLd e n q L) (h : Nat) = mvSn q (snAt L (h : Nat)) := by
  simp [snAt, mvLd, hh]
theorem ridges_moved (hi : i < L.st.length) (hj : j < L.st.length) : ridgesI (mvLd e n q L) i j = ridgesI L i j := by
  unfold ridgesI
  rw [st_moved hi, st_moved hj]
  exact which_map fun x => block_moved
theorem clouds_moved {k : Nat} {h : Int} (hi : i < L.st.length) (hj : j < L.st.length) : cloudsI (mvLd e n q L) i j k h = cloudsI L i j k h := by
  unfold cloudsI
  rw [st_moved hi, st_moved hj]
  have : (mvLd e n q L).cs[((k : Nat) : Int).toNat]?.getD [] = (L.cs[((k : Nat) : Int).toNat]?.getD []).map (mvCl e n q) := by
    simp only [mvLd, List.getElem?_map]
    cases L.cs[((k : Nat) : Int).toNat]? <;> rfl
  rw [this]
  refine which_map fun x => ?_
  show (inB x.f x.t h && blocksW _ _ (mvWl e n q x.w)) = _
  rw [block_moved]
  rfl
theorem behind_moved {h : Nat} (hi : i < L.st.length) (hj : j < L.st.length) (hh : h < L.sn.length) : behindL (mvLd e n q L) i j h = behindL L i j h := by
  unfold behindL
  rw [st_moved hi, st_moved hj, sn_moved hh]
  cases q with
  | false =>
    simp only [mvSt, mvSn, behindI, Bool.false_eq_true, if_false]
    congr 2
    rw [show (stAt L j).x + e - ((stAt L i).x + e) = (stAt L j).x - (stAt L i).x by omega, show (stAt L j).y + n - ((stAt L i).y + n) = (stAt L j).y - (stAt L i).y by omega]
  | true =>
    simp only [mvSt, mvSn, behindI, if_true]
    rw [show (stAt L j).x + e - ((stAt L i).x + e) = (stAt L j).x - (stAt L i).x by omega, show (stAt L j).y + n - ((stAt L i).y + n) = (stAt L j).y - (stAt L i).y by omega, Int.add_comm]
theorem why_moved {k h : Nat} (hi : i < L.st.length) (hj : j < L.st.length) (hh : h < L.sn.length) : whyI (mvLd e n q L) i j k h = whyI L i j k h := by
  unfold whyI
  rw [behind_moved hi hj hh, ridges_moved hi hj, clouds_moved hi hj, st_moved hi, sn_moved hh]
  cases q <;> rfl
end

end Go.Proofs.Ytojbdmdjepgpjaa
