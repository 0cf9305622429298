/-
  PLAIN: a dispatch of which one number is replaced, or two are exchanged, is not right.
-/
import Derived.Test.YtkhfkmfofhnmdaaDk
namespace Go.Proofs.Ytkhfkmfofhnmdaa
open Go.RowKit Go.Shelf

/-- What an index counts in the check, the last one being m. -/
def wt (m i : Nat) : Int := if i = m then -1 else (i : Int) + 1
def tI (l : List Int) : Int := sumI 0 l - l.getD (l.length - 1) 0 * ((l.length : Int) + 1)
theorem sumI_set : ∀ (j : Nat) (l : List Int) (i : Nat) (v : Int), i < l.length → sumI j (l.set i v) = sumI j l + (v - l.getD i 0) * ((j : Int) + i + 1)
  | _, [], _, _, h => by simp at h
  | j, x :: r, 0, v, _ => by
    simp only [List.set_cons_zero, sumI, List.getD_cons_zero]
    grind
  | j, x :: r, i + 1, v, h => by
    have ih := sumI_set (j + 1) r i v (by simpa using h)
    simp only [List.set_cons_succ, sumI, List.getD_cons_succ, ih]
    grind
theorem sumI_append : ∀ (j : Nat) (l : List Int) (c : Int), sumI j (l ++ [c]) = sumI j l + c * ((j : Int) + l.length + 1)
  | j, [], c => by simp [sumI]
  | j, x :: r, c => by
    have ih := sumI_append (j + 1) r c
    simp only [List.cons_append, sumI, ih, List.length_cons]
    grind
theorem getD_set_eq {l : List Int} {i : Nat} {v : Int} (h : i < l.length) : (l.set i v).getD i 0 = v := by
  simp [List.getD_eq_getElem?_getD, h]
theorem getD_set_ne {l : List Int} {i k : Nat} {v : Int} (h : i ≠ k) : (l.set i v).getD k 0 = l.getD k 0 := by
  simp [List.getD_eq_getElem?_getD, List.getElem?_set_ne h]
theorem tI_set {l : List Int} {i : Nat} {v : Int} (h : i < l.length) : tI (l.set i v) = tI l + (v - l.getD i 0) * wt (l.length - 1) i := by
  unfold tI wt
  rw [sumI_set 0 l i v h, List.length_set]
  by_cases e : i = l.length - 1
  · rw [if_pos e, ← e, getD_set_eq h]
    have : (l.length : Int) = (i : Int) + 1 := by omega
    rw [this]
    grind
  · rw [if_neg e, getD_set_ne e]
    grind
theorem tI_zero {l : List Int} {n : Int} (hne : l ≠ []) (h : l.getLastD 0 = sumI 0 l.dropLast % n) : tI l % n = 0 := by
  have e : l = l.dropLast ++ [l.getLastD 0] := by
    rw [List.getLastD_eq_getLast?, List.getLast?_eq_some_getLast hne]
    exact (List.dropLast_concat_getLast hne).symm
  have hl : l.getD (l.length - 1) 0 = l.getLastD 0 := by
    rw [List.getLastD_eq_getLast?, List.getLast?_eq_getElem?, List.getD_eq_getElem?_getD]
  have hs : sumI 0 l = sumI 0 l.dropLast + l.getLastD 0 * (l.length : Int) := by
    have h1 := sumI_append 0 l.dropLast (l.getLastD 0)
    rw [← e] at h1
    have h2 : l.length ≠ 0 := by simpa using hne
    have h3 : (((0 : Nat) : Int) + (l.dropLast.length : Int) + 1) = (l.length : Int) := by simp; omega
    rw [h1, h3]
  unfold tI
  rw [hl, hs]
  have h4 : sumI 0 l.dropLast + l.getLastD 0 * (l.length : Int) - l.getLastD 0 * ((l.length : Int) + 1) = sumI 0 l.dropLast - l.getLastD 0 := by grind
  rw [h4, h, Int.emod_def (sumI 0 l.dropLast) n]
  rw [show sumI 0 l.dropLast - (sumI 0 l.dropLast - n * (sumI 0 l.dropLast / n)) = n * (sumI 0 l.dropLast / n) by omega]
  exact Int.mul_emod_right _ _
theorem prod_all : ∀ n ∈ List.range 42, primeB n = true → 13 ≤ n → ∀ a ∈ List.range 13, ∀ d ∈ List.range 42, 0 < a → 0 < d → d < n → (d * a) % n ≠ 0 := by decide +kernel
theorem prod_ne {n d a : Int} (hp : primeB n.toNat = true) (h1 : 13 ≤ n) (h2 : n ≤ 41) (hd : d ≠ 0) (hd1 : -n < d) (hd2 : d < n) (ha : a ≠ 0) (ha1 : -12 ≤ a) (ha2 : a ≤ 12) : (d * a) % n ≠ 0 := by
  intro h
  have h3 := Int.natAbs_dvd_natAbs.2 (Int.dvd_of_emod_eq_zero h)
  rw [Int.natAbs_mul] at h3
  have h4 := Nat.mod_eq_zero_of_dvd h3
  have e : n.natAbs = n.toNat := by omega
  rw [e] at h4
  exact prod_all n.toNat (List.mem_range.2 (by omega)) hp (by omega) a.natAbs (List.mem_range.2 (by omega)) d.natAbs (List.mem_range.2 (by omega)) (by omega) (by omega) (by omega) h4
theorem two_zero {a b c n : Int} (h1 : a % n = 0) (h2 : b % n = 0) (h : a = b + c) : c % n = 0 := by
  have := Int.emod_emod_of_dvd a (Int.dvd_refl n)
  obtain ⟨x, rfl⟩ := Int.dvd_of_emod_eq_zero h1
  obtain ⟨y, rfl⟩ := Int.dvd_of_emod_eq_zero h2
  have : c = n * (x - y) := by grind
  rw [this]
  exact Int.mul_emod_right _ _
theorem shift_ne {p n r : Int} (h0 : 0 ≤ p) (h1 : p < n) (h2 : 0 ≤ r) (h3 : r < n - 1) : (p + 1 + r) % n ≠ p ∧ 0 ≤ (p + 1 + r) % n ∧ (p + 1 + r) % n < n := by
  refine ⟨?_, Int.emod_nonneg _ (by omega), Int.emod_lt_of_pos _ (by omega)⟩
  by_cases h : p + 1 + r < n
  · rw [Int.emod_eq_of_lt (by omega) h]; omega
  · rw [show p + 1 + r = (p + 1 + r - n) + n by omega, Int.add_emod_right, Int.emod_eq_of_lt (by omega) (by omega)]; omega

theorem disp_parts {b : Bk} {day : Nat} {l : List Int} (h : dispE b day l = 0) : 2 ≤ l.length ∧ l.length ≤ 12 ∧ (∀ i, i < l.length → 0 ≤ l.getD i 0 ∧ l.getD i 0 < b.n) ∧ tI l % b.n = 0 := by
  obtain ⟨h1, h2, h3, h4, h5⟩ := dispE_zero h
  refine ⟨h1, h2, fun i hi => ?_, tI_zero (by intro e; rw [e] at h1; simp at h1) h5⟩
  have := List.all_eq_true.1 h3 (l.getD i 0) (by rw [List.getD_eq_getElem?_getD, List.getElem?_eq_getElem hi]; exact List.getElem_mem _)
  exact belowB_iff.1 this
theorem wrong_one {b : Bk} (hok : BookOK b) {day : Nat} {l : List Int} {i : Nat} {v : Int} (h : dispE b day l = 0) (hi : i < l.length) (h0 : 0 ≤ v) (h1 : v < b.n) (hv : v ≠ l.getD i 0) : dispE b day (l.set i v) ≠ 0 := by
  intro h'
  obtain ⟨a1, a2, a3, a4⟩ := disp_parts h
  obtain ⟨_, _, _, b4⟩ := disp_parts h'
  have hp := a3 i hi
  refine prod_ne hok.pr hok.n1 hok.n2 (d := v - l.getD i 0) (a := wt (l.length - 1) i) (by omega) (by omega) (by omega) ?_ ?_ ?_ (two_zero b4 a4 (tI_set hi))
  all_goals (unfold wt; split <;> omega)
theorem wrong_two {b : Bk} (hok : BookOK b) {day : Nat} {l : List Int} {i k : Nat} (h : dispE b day l = 0) (hi : i < l.length) (hk : k < l.length) (hne : l.getD i 0 ≠ l.getD k 0) : dispE b day ((l.set i (l.getD k 0)).set k (l.getD i 0)) ≠ 0 := by
  intro h'
  obtain ⟨a1, a2, a3, a4⟩ := disp_parts h
  obtain ⟨_, _, _, b4⟩ := disp_parts h'
  have hp := a3 i hi
  have hq := a3 k hk
  have hik : i ≠ k := fun e => hne (by rw [e])
  have e1 := tI_set (l := l.set i (l.getD k 0)) (i := k) (v := l.getD i 0) (by simpa using hk)
  rw [tI_set hi, getD_set_ne hik, List.length_set] at e1
  have e2 : tI ((l.set i (l.getD k 0)).set k (l.getD i 0)) = tI l + (l.getD k 0 - l.getD i 0) * (wt (l.length - 1) i - wt (l.length - 1) k) := by rw [e1]; grind
  refine prod_ne hok.pr hok.n1 hok.n2 (d := l.getD k 0 - l.getD i 0) (a := wt (l.length - 1) i - wt (l.length - 1) k) (by omega) (by omega) (by omega) ?_ ?_ ?_ (two_zero b4 a4 e2)
  all_goals (unfold wt; split <;> split <;> omega)
theorem set_id {l : List Int} {i : Nat} {v : Int} (hi : i < l.length) (h : l.getD i 0 = v) : l.set i v = l := by
  subst h
  rw [List.getD_eq_getElem?_getD, List.getElem?_eq_getElem hi]
  exact List.set_getElem_self hi
theorem swap_id {l : List Int} {i k : Nat} (hi : i < l.length) (hk : k < l.length) (h : l.getD i 0 = l.getD k 0) : (l.set i (l.getD k 0)).set k (l.getD i 0) = l := by
  rw [set_id hi h, set_id hk h.symm]
theorem decode_bad {b : Bk} {day : Nat} {l : List Int} (h1 : bookE b = 0) (hd : day < b.ds.length) (h : dispE b day l ≠ 0) : decodeE b day l = ([], [], dispE b day l) := by
  unfold decodeE
  rw [if_neg (by simpa using h1), if_neg (by rw [show belowB (day : Int) b.ds.length = true from belowB_iff.2 (by omega)]; simp), Int.toNat_natCast, if_pos h]
end Go.Proofs.Ytkhfkmfofhnmdaa
