/-
  PLAIN: lands whose ridges and cases are in another order, or one of whose ridges is turned or divided into two; which walls block then.
-/
import Derived.Test.YtojbdmdjepgpjaaVp
import Derived.Test.YtojbdmdjepgpjaaRi
namespace Go.Proofs.Ytojbdmdjepgpjaa
open Go.RowKit

def rot {α : Type} (k : Nat) (l : List α) : List α := l.drop k ++ l.take k
section
variable {α : Type} {k : Nat} {l : List α} {p : α → Bool} {x : α}
theorem mem_rot : x ∈ rot k l ↔ x ∈ l := by
  unfold rot
  rw [List.mem_append, or_comm, ← List.mem_append, List.take_append_drop]
theorem len_rot : (rot k l).length = l.length := by
  unfold rot
  simp
  omega
theorem any_rot : (rot k l).any p = l.any p := by
  unfold rot
  rw [List.any_append, Bool.or_comm, ← List.any_append, List.take_append_drop]
theorem all_rot : (rot k l).all p = l.all p := by
  unfold rot
  rw [List.all_append, Bool.and_comm, ← List.all_append, List.take_append_drop]
end
def rotLd (k m : Nat) (L : Ld) : Ld := ⟨L.st, rot k L.rg, rot m L.cs, L.sn⟩
section
variable {L : Ld} {k m : Nat}
theorem err_rot : errI (rotLd k m L) = errI L := by
  have h1 : exB (rotLd k m L) = exB L := by
    unfold exB rotLd
    simp only [len_rot, any_rot]
  have h2 : validB (rotLd k m L) = validB L := by
    unfold validB rotLd
    simp only [len_rot, all_rot]
  unfold errI
  rw [h1, h2]
theorem open_rot {a b h : Int} : openI (rotLd k m L) 0 h [a, b] = openI L 0 h [a, b] := by
  unfold openI
  rw [err_rot]
  have : (rotLd k m L).cs.length = L.cs.length := len_rot
  rw [this]
  rfl
theorem stuck_rot {a b h : Int} : (stuckI (rotLd k m L) a b h).isEmpty = (stuckI L a b h).isEmpty := by
  have key : ∀ M : Ld, stuckI M a b h = [] ↔ ∀ l ∈ M.cs, 0 < (snAt M h).u ∧ (behindL M a b h && (stAt M a).m == 1) = false ∧ ridgesI M a b = [] ∧ whichB (cloudB (stAt M a) (stAt M b) h) l = [] := by
    intro M
    rw [stuck_nil]
    constructor
    · intro hh l hl
      obtain ⟨q, hq, rfl⟩ := List.getElem_of_mem hl
      have := free_iff.1 (hh q hq)
      unfold cloudsI at this
      simpa [hq] using this
    · intro hh q hq
      rw [free_iff]
      have := hh M.cs[q] (List.getElem_mem hq)
      unfold cloudsI
      simpa [hq] using this
  have hr : ridgesI (rotLd k m L) a b = [] ↔ ridgesI L a b = [] := by
    unfold ridgesI
    rw [which_nil, which_nil]
    show ((rot k L.rg).any _ = false) ↔ _
    rw [any_rot]
    rfl
  rw [Bool.eq_iff_iff, List.isEmpty_iff, List.isEmpty_iff, key, key]
  constructor
  · intro hh l hl
    obtain ⟨h1, h2, h3, h4⟩ := hh l (mem_rot.2 hl)
    exact ⟨h1, h2, hr.1 h3, h4⟩
  · intro hh l hl
    obtain ⟨h1, h2, h3, h4⟩ := hh l (mem_rot.1 hl)
    exact ⟨h1, h2, hr.2 h3, h4⟩
theorem always_rot {a b : Int} : alwaysE (rotLd k m L) a b = alwaysE L a b := by
  unfold alwaysE
  rw [open_rot]
  have : (fun h : Nat => (stuckI (rotLd k m L) a b h).isEmpty) = fun h : Nat => (stuckI L a b h).isEmpty := funext fun h => stuck_rot
  rw [this]
  rfl
theorem rise_rot {a b : Int} : riseI (rotLd k m L) a b = riseI L a b := by
  unfold riseI
  rw [open_rot]
  have : clearB (rotLd k m L) (stAt (rotLd k m L) a) (stAt (rotLd k m L) b) = clearB L (stAt L a) (stAt L b) := by
    funext u
    unfold clearB
    show (!((rot k L.rg).any _)) = _
    rw [any_rot]
    rfl
  rw [this]
  rfl
end

/-- A wall with its ends exchanged. -/
def swapW (x : Wl) : Wl := ⟨x.x2, x.y2, x.x1, x.y1, x.b, x.t⟩
theorem side_swap (x1 y1 x2 y2 px py : Int) : sideI x2 y2 x1 y1 px py = -sideI x1 y1 x2 y2 px py := by
  unfold sideI
  grind
theorem cross_swap (ax ay bx b_y x1 y1 x2 y2 : Int) : crossB ax ay bx b_y x2 y2 x1 y1 = crossB ax ay bx b_y x1 y1 x2 y2 := by
  rw [Bool.eq_iff_iff]
  simp only [crossB, Bool.and_eq_true, decide_eq_true_eq, side_swap x1 y1 x2 y2, Int.neg_mul_neg]
  rw [Int.mul_comm (sideI ax ay bx b_y x2 y2)]
theorem block_swap {s t : St} {x : Wl} : blocksW s t (swapW x) = blocksW s t x := by
  refine block_sides rfl rfl rfl rfl ?_ ?_ ?_
  · exact cross_swap _ _ _ _ _ _ _ _
  · simp only [swapW, side_swap x.x1 x.y1 x.x2 x.y2, size_neg]
  · simp only [swapW, side_swap x.x1 x.y1 x.x2 x.y2, size_neg]
theorem mul_sign {n s t : Int} (hn : 0 < n) : (n * s) * (n * t) < 0 ↔ s * t < 0 := by
  have h : (n * s) * (n * t) = (n * n) * (s * t) := by grind
  have hp : 0 < n * n := Int.mul_pos hn hn
  rw [h]
  constructor
  · intro h1
    rcases Int.lt_or_le (s * t) 0 with h2 | h2
    · exact h2
    · have := Int.mul_nonneg (Int.le_of_lt hp) h2
      omega
  · intro h1
    exact Int.mul_neg_of_pos_of_neg hp h1
theorem size_mul {n s : Int} (hn : 0 < n) : sizeI (n * s) = n * sizeI s := by
  unfold sizeI
  rcases Int.lt_or_le s 0 with h | h
  · rw [if_pos h, if_pos (Int.mul_neg_of_pos_of_neg hn h), Int.mul_neg]
  · have hm := Int.mul_nonneg (Int.le_of_lt hn) h
    rw [if_neg (by omega), if_neg (by omega)]
/-- What blocks, by the sides of the stations as parts of a number: n of S(a), S(b); the sides T1, T2 of the ends. -/
theorem block_parts {s t : St} {x : Wl} {n S1 S2 : Int} (hn : 0 < n) (h1 : sideI x.x1 x.y1 x.x2 x.y2 s.x s.y = n * S1) (h2 : sideI x.x1 x.y1 x.x2 x.y2 t.x t.y = n * S2) :
    blocksW s t x = true ↔ (S1 * S2 < 0 ∧ sideI s.x s.y t.x t.y x.x1 x.y1 * sideI s.x s.y t.x t.y x.x2 x.y2 ≤ 0) ∧ x.b * (sizeI S1 + sizeI S2) ≤ s.z * sizeI S2 + t.z * sizeI S1 ∧ s.z * sizeI S2 + t.z * sizeI S1 ≤ x.t * (sizeI S1 + sizeI S2) := by
  unfold blocksW blockI
  have hc : crossB s.x s.y t.x t.y x.x1 x.y1 x.x2 x.y2 = true ↔ S1 * S2 < 0 ∧ sideI s.x s.y t.x t.y x.x1 x.y1 * sideI s.x s.y t.x t.y x.x2 x.y2 ≤ 0 := by
    unfold crossB
    rw [h1, h2, Bool.and_eq_true, decide_eq_true_eq, decide_eq_true_eq, mul_sign hn]
  rw [Bool.and_eq_true, Bool.and_eq_true, decide_eq_true_eq, decide_eq_true_eq, ← hc]
  refine and_congr_right fun hcr => ?_
  unfold overP overQ
  rw [hcr, if_pos rfl, if_pos rfl, h1, h2, size_mul hn, size_mul hn]
  have e1 : s.z * (n * sizeI S2) + t.z * (n * sizeI S1) = n * (s.z * sizeI S2 + t.z * sizeI S1) := by grind
  have e2 : ∀ q : Int, q * (n * sizeI S1 + n * sizeI S2) = n * (q * (sizeI S1 + sizeI S2)) := fun q => by grind
  rw [e1, e2, e2]
  exact and_congr ⟨fun h => Int.le_of_mul_le_mul_left h hn, fun h => Int.mul_le_mul_of_nonneg_left h (Int.le_of_lt hn)⟩ ⟨fun h => Int.le_of_mul_le_mul_left h hn, fun h => Int.mul_le_mul_of_nonneg_left h (Int.le_of_lt hn)⟩
theorem between_sign {T D n k : Int} (h1 : 0 < k) (h2 : k < n) : T * (T + n * D) ≤ 0 ↔ T * (T + k * D) ≤ 0 ∨ (T + k * D) * (T + n * D) ≤ 0 := by
  have e : n * D = k * D + (n - k) * D := by grind
  rw [e]
  have hs : (0 ≤ k * D ∧ 0 ≤ (n - k) * D) ∨ (k * D ≤ 0 ∧ (n - k) * D ≤ 0) := by
    rcases Int.le_total 0 D with h | h
    · exact .inl ⟨Int.mul_nonneg (by omega) h, Int.mul_nonneg (by omega) h⟩
    · exact .inr ⟨Int.mul_nonpos_of_nonneg_of_nonpos (by omega) h, Int.mul_nonpos_of_nonneg_of_nonpos (by omega) h⟩
  generalize k * D = a at *
  generalize (n - k) * D = b at *
  have key : ∀ x y : Int, x * y ≤ 0 ↔ (x ≤ 0 ∧ 0 ≤ y) ∨ (0 ≤ x ∧ y ≤ 0) := by
    intro x y
    constructor
    · intro h
      rcases Int.lt_trichotomy x 0 with hx | hx | hx
      · left
        refine ⟨by omega, ?_⟩
        rcases Int.lt_or_le y 0 with hy | hy
        · have := Int.mul_pos_of_neg_of_neg hx hy; omega
        · exact hy
      · subst hx
        rcases Int.le_total 0 y with hy | hy
        · exact .inl ⟨by omega, hy⟩
        · exact .inr ⟨by omega, hy⟩
      · right
        refine ⟨by omega, ?_⟩
        rcases Int.lt_or_le 0 y with hy | hy
        · have := Int.mul_pos hx hy; omega
        · exact hy
    · rintro (⟨hx, hy⟩ | ⟨hx, hy⟩)
      · exact Int.mul_nonpos_of_nonpos_of_nonneg hx hy
      · exact Int.mul_nonpos_of_nonneg_of_nonpos hx hy
  rw [key, key, key]
  omega
/-- A wall divided at a place on it blocks if and only if one of its parts does. -/
theorem block_divided {s t : St} {x1 y1 dx dy n k b tp : Int} (h1 : 0 < k) (h2 : k < n) :
    blocksW s t ⟨x1, y1, x1 + n * dx, y1 + n * dy, b, tp⟩ = (blocksW s t ⟨x1, y1, x1 + k * dx, y1 + k * dy, b, tp⟩ || blocksW s t ⟨x1 + k * dx, y1 + k * dy, x1 + n * dx, y1 + n * dy, b, tp⟩) := by
  have e1 : ∀ m px py : Int, sideI x1 y1 (x1 + m * dx) (y1 + m * dy) px py = m * (dx * (py - y1) - dy * (px - x1)) := fun m px py => by unfold sideI; grind
  have e2 : ∀ px py : Int, sideI (x1 + k * dx) (y1 + k * dy) (x1 + n * dx) (y1 + n * dy) px py = (n - k) * (dx * (py - y1) - dy * (px - x1)) := fun px py => by unfold sideI; grind
  have e3 : ∀ m : Int, sideI s.x s.y t.x t.y (x1 + m * dx) (y1 + m * dy) = sideI s.x s.y t.x t.y x1 y1 + m * ((t.x - s.x) * dy - (t.y - s.y) * dx) := fun m => by unfold sideI; grind
  rw [Bool.eq_iff_iff, Bool.or_eq_true, block_parts (n := n) (by omega) (e1 n _ _) (e1 n _ _), block_parts (n := k) h1 (e1 k _ _) (e1 k _ _), block_parts (n := n - k) (by omega) (e2 _ _) (e2 _ _)]
  simp only [e3]
  rw [between_sign h1 h2]
  constructor
  · rintro ⟨⟨ha, hb | hb⟩, hc⟩
    · exact .inl ⟨⟨ha, hb⟩, hc⟩
    · exact .inr ⟨⟨ha, hb⟩, hc⟩
  · rintro (⟨⟨ha, hb⟩, hc⟩ | ⟨⟨ha, hb⟩, hc⟩)
    · exact ⟨⟨ha, .inl hb⟩, hc⟩
    · exact ⟨⟨ha, .inr hb⟩, hc⟩

end Go.Proofs.Ytojbdmdjepgpjaa
