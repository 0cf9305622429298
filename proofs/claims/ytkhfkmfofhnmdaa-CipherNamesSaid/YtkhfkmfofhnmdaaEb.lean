/-
  PLAIN: the best plan is right, and no right plan has fewer changes, nor as many and is before it; what becomes of it with more losses, or a smaller number.
-/
import Derived.Test.YtkhfkmfofhnmdaaDp
import Derived.Test.YtkhfkmfofhnmdaaCx
namespace Go.Proofs.Ytkhfkmfofhnmdaa
open Go.RowKit Go.Shelf

/-- The plan p of the days from x on is right. -/
def okP (m : Nat) (most : Int) (free : Int → Int → Bool) : Eve → List Nat → Prop
  | _, [] => True
  | x, k :: p => k < m ∧ free k x.day = true ∧ x.used k ≠ most ∧ okP m most free (x.next k) p
def costP : Eve → List Nat → Int
  | _, [] => 0
  | x, k :: p => changeI x k + costP (x.next k) p
section
variable {m : Nat} {most : Int} {free : Int → Int → Bool} {r : Nat} {x : Eve}
def allow (most : Int) (free : Int → Int → Bool) (x : Eve) (k : Nat) : Prop := free k x.day = true ∧ x.used k ≠ most
/-- The changes of the best plan that uses the key k first. -/
def costK (m : Nat) (most : Int) (free : Int → Int → Bool) (r : Nat) (x : Eve) (k : Nat) : Int := changeI x k + (bestF m most free r (x.next k)).2
theorem bestK_inv : ∀ K : Nat, (bestK m most free r x K = ([], 8) ∧ ∀ k, k < K → allow most free x k → 8 ≤ costK m most free r x k) ∨
    ∃ k', k' < K ∧ allow most free x k' ∧ bestK m most free r x K = ((k' : Int) :: (bestF m most free r (x.next k')).1, costK m most free r x k') ∧ costK m most free r x k' < 8 ∧
      (∀ k, k < k' → allow most free x k → costK m most free r x k' < costK m most free r x k) ∧ ∀ k, k < K → allow most free x k → costK m most free r x k' ≤ costK m most free r x k
  | 0 => .inl ⟨bestK_zero, fun k h => by omega⟩
  | K + 1 => by
    have ih := bestK_inv K
    rw [bestK_succ]
    unfold stepP
    by_cases ha : (free K x.day && x.used K != most) = true
    · have hA : allow most free x K := by simpa [allow] using ha
      rw [if_pos ha]
      have hc : changeI x K + (bestF m most free r (x.next K)).2 = costK m most free r x K := rfl
      rw [hc]
      rcases ih with ⟨h1, h2⟩ | ⟨k', h1, h2, h3, h4, h5, h6⟩
      · rw [h1]
        by_cases h : costK m most free r x K < 8
        · rw [if_pos h]
          refine .inr ⟨K, by omega, hA, rfl, h, fun k hk hk2 => ?_, fun k hk hk2 => ?_⟩
          · have := h2 k hk hk2; omega
          · rcases Nat.lt_or_ge k K with h3 | h3
            · have := h2 k h3 hk2; omega
            · have : k = K := by omega
              subst this; omega
        · rw [if_neg h]
          refine .inl ⟨rfl, fun k hk hk2 => ?_⟩
          rcases Nat.lt_or_ge k K with h3 | h3
          · exact h2 k h3 hk2
          · have : k = K := by omega
            subst this; omega
      · rw [h3]
        by_cases h : costK m most free r x K < costK m most free r x k'
        · simp only
          rw [if_pos h]
          refine .inr ⟨K, by omega, hA, rfl, by omega, fun k hk hk2 => ?_, fun k hk hk2 => ?_⟩
          · have := h6 k hk hk2; omega
          · rcases Nat.lt_or_ge k K with h7 | h7
            · have := h6 k h7 hk2; omega
            · have : k = K := by omega
              subst this; omega
        · simp only
          rw [if_neg h]
          refine .inr ⟨k', by omega, h2, rfl, h4, h5, fun k hk hk2 => ?_⟩
          rcases Nat.lt_or_ge k K with h7 | h7
          · exact h6 k h7 hk2
          · have : k = K := by omega
            subst this; omega
    · have hA : ¬ allow most free x K := fun h => ha (by simpa [allow] using h)
      rw [if_neg ha]
      rcases ih with ⟨h1, h2⟩ | ⟨k', h1, h2, h3, h4, h5, h6⟩
      · refine .inl ⟨h1, fun k hk hk2 => ?_⟩
        rcases Nat.lt_or_ge k K with h3 | h3
        · exact h2 k h3 hk2
        · have : k = K := by omega
          subst this; exact absurd hk2 hA
      · refine .inr ⟨k', by omega, h2, h3, h4, h5, fun k hk hk2 => ?_⟩
        rcases Nat.lt_or_ge k K with h7 | h7
        · exact h6 k h7 hk2
        · have : k = K := by omega
          subst this; exact absurd hk2 hA
theorem costK_in (k : Nat) : 0 ≤ costK m most free r x k := by
  have h1 := changeI_in x k
  have h2 := bestF_in m most free r (x.next k)
  unfold costK
  omega
end
section
variable {m : Nat} {most : Int} {free : Int → Int → Bool}
theorem best_le : ∀ (p : List Nat) (x : Eve), okP m most free x p → (bestF m most free p.length x).2 ≤ costP x p
  | [], x, _ => by simp [bestF, costP]
  | k :: p, x, ⟨h1, h2, h3, h4⟩ => by
    have ih := best_le p (x.next k) h4
    have hA : allow most free x k := ⟨h2, h3⟩
    have hc : costK m most free p.length x k ≤ costP x (k :: p) := by unfold costK costP; omega
    rw [List.length_cons, ← bestK_all]
    rcases bestK_inv (m := m) (most := most) (free := free) (r := p.length) (x := x) m with ⟨e1, e2⟩ | ⟨k', a1, a2, a3, a4, a5, a6⟩
    · rw [e1]
      have := e2 k h1 hA
      show (8 : Int) ≤ _
      omega
    · rw [a3]
      have := a6 k h1 hA
      show costK m most free p.length x k' ≤ _
      omega
theorem best_ok : ∀ (r : Nat) (x : Eve), (bestF m most free r x).2 < 8 → ∃ p : List Nat, p.length = r ∧ (bestF m most free r x).1 = p.map (fun k : Nat => (k : Int)) ∧ okP m most free x p ∧ costP x p = (bestF m most free r x).2
  | 0, x, _ => ⟨[], rfl, rfl, trivial, rfl⟩
  | r + 1, x, h => by
    rw [← bestK_all] at h ⊢
    rcases bestK_inv (m := m) (most := most) (free := free) (r := r) (x := x) m with ⟨e1, e2⟩ | ⟨k', a1, a2, a3, a4, a5, a6⟩
    · rw [e1] at h
      exact absurd h (by decide)
    · have hc := changeI_in x k'
      have hc' : costK m most free r x k' = changeI x k' + (bestF m most free r (x.next k')).2 := rfl
      obtain ⟨p, p1, p2, p3, p4⟩ := best_ok r (x.next k') (by omega)
      rw [a3]
      exact ⟨k' :: p, by simp [p1], by simp [p2], ⟨a1, a2.1, a2.2, p3⟩, by rw [costP, p4]; rfl⟩
/-- A list is lexicographically before another one. -/
def beforeB : List Int → List Int → Bool
  | [], l => decide (0 < l.length)
  | _ :: _, [] => false
  | a :: l, b :: k => if a = b then beforeB l k else decide (a < b)
theorem best_first : ∀ (p : List Nat) (x : Eve), okP m most free x p → costP x p ≤ (bestF m most free p.length x).2 → (bestF m most free p.length x).2 < 8 → beforeB (p.map fun k : Nat => (k : Int)) (bestF m most free p.length x).1 = false
  | [], x, _, _, _ => by simp [bestF, beforeB]
  | k :: p, x, ⟨h1, h2, h3, h4⟩, h, h8 => by
    have hle := best_le p (x.next k) h4
    have hA : allow most free x k := ⟨h2, h3⟩
    have hc : costK m most free p.length x k ≤ costP x (k :: p) := by unfold costK costP; omega
    rw [List.length_cons, ← bestK_all] at h h8 ⊢
    rcases bestK_inv (m := m) (most := most) (free := free) (r := p.length) (x := x) m with ⟨e1, e2⟩ | ⟨k', a1, a2, a3, a4, a5, a6⟩
    · rw [e1] at h8
      exact absurd h8 (by decide)
    · rw [a3] at h h8 ⊢
      have h' : costP x (k :: p) ≤ costK m most free p.length x k' := h
      have e1 := a6 k h1 hA
      have hkk : k' ≤ k := by
        rcases Nat.lt_or_ge k k' with h9 | h9
        · have := a5 k h9 hA; omega
        · exact h9
      simp only [List.map_cons, beforeB]
      by_cases e : k' = k
      · subst e
        rw [if_pos rfl]
        have c1 : costP x (k' :: p) = changeI x k' + costP (x.next k') p := rfl
        have c2 : costK m most free p.length x k' = changeI x k' + (bestF m most free p.length (x.next k')).2 := rfl
        have hc9 := changeI_in x k'
        exact best_first p (x.next k') h4 (by omega) (by omega)
      · rw [if_neg (by omega), decide_eq_false_iff_not]
        omega
theorem okP_at : ∀ (p : List Nat) (x : Eve) (i k : Nat), okP m most free x p → p[i]? = some k → k < m ∧ free k (x.day + i) = true
  | [], _, _, _, _, h => by simp at h
  | k :: p, x, 0, k', ⟨h1, h2, _, _⟩, h => by
    have : k = k' := by simpa using h
    subst this
    exact ⟨h1, by simpa using h2⟩
  | k :: p, x, i + 1, k', ⟨_, _, _, h4⟩, h => by
    have ih := okP_at p (x.next k) i k' h4 (by simpa using h)
    refine ⟨ih.1, ?_⟩
    have e : (x.next k).day = x.day + 1 := by rcases k with _ | _ | _ | _ | k <;> rfl
    rw [e] at ih
    have : x.day + 1 + (i : Int) = x.day + ((i + 1 : Nat) : Int) := by omega
    rw [← this]
    exact ih.2
theorem okP_mono {free' : Int → Int → Bool} (hf : ∀ k d, free' k d = true → free k d = true) : ∀ (p : List Nat) (x : Eve), okP m most free' x p → okP m most free x p
  | [], _, _ => trivial
  | _ :: p, _, ⟨h1, h2, h3, h4⟩ => ⟨h1, hf _ _ h2, h3, okP_mono hf p _ h4⟩
theorem used_next {x : Eve} {k j : Nat} (hk : k < 5) (hj : j < 5) : (x.next k).used j = x.used j + if j = k then 1 else 0 := by
  rcases k with _ | _ | _ | _ | _ | k <;> rcases j with _ | _ | _ | _ | _ | j <;> first | omega | simp [Eve.next, Eve.used]
theorem okP_few {few : Int} (hm : m ≤ 5) (hfm : few ≤ most) : ∀ (p : List Nat) (x : Eve), (∀ j, j < 5 → x.used j ≤ few) → okP m few free x p → okP m most free x p
  | [], _, _, _ => trivial
  | k :: p, x, hu, ⟨h1, h2, h3, h4⟩ => by
    have hk := hu k (by omega)
    refine ⟨h1, h2, by omega, okP_few hm hfm p _ (fun j hj => ?_) h4⟩
    rw [used_next (by omega) hj]
    have := hu j hj
    split
    · rename_i e; subst e; omega
    · omega
theorem cost_le : ∀ (p : List Nat) (x : Eve), costP x p ≤ p.length ∧ 0 ≤ costP x p
  | [], _ => by simp [costP]
  | k :: p, x => by
    have := cost_le p (x.next k)
    have := changeI_in x k
    simp only [costP, List.length_cons]
    omega
end

theorem eve0_used (j : Nat) : eve0.used j = 0 := by rcases j with _ | _ | _ | _ | j <;> rfl
theorem cost_eve {p : List Nat} (hp : p.length ≤ 8) : costP eve0 p < 8 := by
  cases p with
  | nil => simp [costP]
  | cons k p =>
    have := cost_le p (eve0.next k)
    have e : changeI eve0 k = 0 := by simp [changeI, eve0]
    simp only [costP, e, List.length_cons] at hp ⊢
    omega
/-- A right plan of a book. -/
def rightP (b : Bk) (ls : List Ls) (most : Int) (p : List Nat) : Prop := p.length = b.ds.length ∧ okP b.ks.length most (freeB b.ds.length ls) eve0 p
theorem bestI_lim (b : Bk) (ls : List Ls) (most : Int) : 0 ≤ (bestI b ls most).2 ∧ (bestI b ls most).2 ≤ 8 := ⟨(bestF_in _ _ _ _ _).1, (bestF_in _ _ _ _ _).2.1⟩
theorem bestI_ok {b : Bk} {ls : List Ls} {most : Int} (h : (bestI b ls most).2 < 8) : ∃ p : List Nat, (bestI b ls most).1 = p.map (fun k : Nat => (k : Int)) ∧ rightP b ls most p ∧ costP eve0 p = (bestI b ls most).2 := by
  obtain ⟨p, h1, h2, h3, h4⟩ := best_ok b.ds.length eve0 h
  exact ⟨p, h2, ⟨h1, h3⟩, h4⟩
theorem bestI_le {b : Bk} {ls : List Ls} {most : Int} {p : List Nat} (h : rightP b ls most p) : (bestI b ls most).2 ≤ costP eve0 p := by
  have := best_le p eve0 h.2
  rw [h.1] at this
  exact this
theorem bestI_few {b : Bk} {ls ls' : List Ls} {most few : Int} (hk : b.ks.length ≤ 5) (h0 : 0 ≤ few) (hfm : few ≤ most) (hf : ∀ k d, freeB b.ds.length ls' k d = true → freeB b.ds.length ls k d = true) : (bestI b ls most).2 ≤ (bestI b ls' few).2 := by
  have h1 := bestI_lim b ls most
  by_cases h : (bestI b ls' few).2 < 8
  · obtain ⟨p, p1, ⟨p2, p3⟩, p4⟩ := bestI_ok h
    rw [← p4]
    exact bestI_le ⟨p2, okP_few hk hfm p eve0 (fun j _ => by rw [eve0_used]; exact h0) (okP_mono hf p eve0 p3)⟩
  · omega
theorem least_more (n : Int) : ∀ (l : List Int) (z : Int), leastI n (l ++ [z]) = min (leastI n l) z := fun l z => by
  unfold leastI
  rw [List.foldl_append]
  rfl
theorem least_top : ∀ (l : List Int) (n : Int), leastI n l ≤ n
  | [], n => by simp [leastI]
  | a :: l, n => by
    have := least_top l (min n a)
    unfold leastI at this ⊢
    rw [List.foldl_cons]
    omega
theorem taken_more (n : Nat) (ls : List Ls) (x : Ls) (key : Int) : takenI n (ls ++ [x]) key ≤ takenI n ls key := by
  unfold takenI takenL
  rw [List.filter_append, List.map_append]
  cases h : (x.k == key) with
  | true =>
    have e : List.filter (fun x => x.k == key) [x] = [x] := by simp [h]
    rw [e, List.map_cons, List.map_nil, least_more]
    omega
  | false =>
    have e : List.filter (fun x => x.k == key) [x] = [] := by simp [h]
    rw [e, List.map_nil, List.append_nil]
    omega
theorem taken_top (n : Nat) (ls : List Ls) (key : Int) : takenI n ls key ≤ n := least_top _ _
theorem free_more (n : Nat) (ls : List Ls) (x : Ls) (k d : Int) (h : freeB n (ls ++ [x]) k d = true) : freeB n ls k d = true := by
  unfold freeB at h ⊢
  rw [decide_eq_true_iff] at h ⊢
  have := taken_more n ls x k
  omega
/-- With one more loss no day becomes later. -/
theorem exp_more {n : Nat} {ls : List Ls} {x : Ls} {key : Int} {day : Nat} (hd : day < n) :
    ¬ ((0 ≤ expI n ls key day ∧ (expI n (ls ++ [x]) key day < 0 ∨ expI n ls key day < expI n (ls ++ [x]) key day)) ∨ (0 ≤ expI n (ls ++ [x]) key day ∧ expI n (ls ++ [x]) key day < day)) := by
  have h1 := taken_more n ls x key
  have h2 := taken_top n ls key
  unfold expI
  split <;> split <;> omega
/-- A day on which others don't have the key can't be read on the day itself. -/
theorem exp_free {n : Nat} {ls : List Ls} {key : Int} {day : Nat} (h : freeB n ls key day = true) : expI n ls key day ≠ day := by
  unfold freeB at h
  rw [decide_eq_true_iff] at h
  have h2 := taken_top n ls key
  unfold expI
  split <;> omega
/-- The book with another plan as its days. -/
def reBk (b : Bk) (l : List Int) : Bk := ⟨b.n, b.w, b.ks, l⟩
theorem re_desk {b : Bk} {ls : List Ls} {most : Int} (h : deskE b ls = 0) (h8 : (bestI b ls most).2 ≠ 8) :
    (bestI b ls most).1.length = b.ds.length ∧ deskE (reBk b (bestI b ls most).1) ls = 0 ∧ ∀ d : Nat, (exposedL (reBk b (bestI b ls most).1) ls)[d]? ≠ some (d : Int) := by
  have hlim := bestI_lim b ls most
  obtain ⟨p, p1, ⟨p2, p3⟩, _⟩ := bestI_ok (b := b) (ls := ls) (most := most) (by omega)
  have hok := deskE_book h
  have hlen : (bestI b ls most).1.length = b.ds.length := by rw [p1, List.length_map, p2]
  rw [p1] at hlen ⊢
  have hb : bookE (reBk b (p.map fun k : Nat => (k : Int))) = 0 := by
    have hb0 : bookE b = 0 := by
      unfold deskE at h
      split at h
      · rename_i h1; exact absurd h h1
      · rename_i h1; exact Classical.not_not.1 h1
    rw [bookE_zero] at hb0 ⊢
    unfold exceedsB bookB reBk at *
    simp only [hlen]
    refine ⟨hb0.1, ?_⟩
    have h2 := hb0.2
    simp only [Bool.and_eq_true, List.all_eq_true] at h2 ⊢
    refine ⟨h2.1, fun d hd => ?_⟩
    obtain ⟨k, hk, rfl⟩ := List.mem_map.1 hd
    obtain ⟨i, hi, rfl⟩ := List.getElem_of_mem hk
    have := okP_at p eve0 i _ p3 (List.getElem?_eq_getElem hi)
    rw [belowB_iff]
    omega
  refine ⟨hlen, ?_, fun d => ?_⟩
  · unfold deskE at h ⊢
    rw [if_neg (by simpa using hb)]
    have hb0 : bookE b = 0 := by
      split at h
      · rename_i h1; exact absurd h h1
      · rename_i h1; exact Classical.not_not.1 h1
    rw [if_neg (by simpa using hb0)] at h
    have e : (ls.all (lossB (reBk b (p.map fun k : Nat => (k : Int))))) = ls.all (lossB b) := by
      congr 1
      funext x
      unfold lossB reBk
      simp only [hlen]
    rw [e]
    exact h
  · unfold exposedL
    show (mapI (expI (p.map fun k : Nat => (k : Int)).length ls) 0 (p.map fun k : Nat => (k : Int)))[d]? ≠ _
    rw [hlen]
    intro he
    cases hp : p[d]? with
    | none =>
      have h1 : (mapI (expI b.ds.length ls) 0 (p.map fun k : Nat => (k : Int))).length ≤ d := by
        rw [mapI_len, List.length_map]
        exact List.getElem?_eq_none_iff.1 hp
      rw [List.getElem?_eq_none h1] at he
      cases he
    | some k =>
      have h1 := mapI_at (expI b.ds.length ls) 0 (p.map fun k : Nat => (k : Int)) d (k : Int) (by rw [List.getElem?_map, hp]; rfl)
      rw [Nat.zero_add] at h1
      rw [h1] at he
      have h2 := okP_at p eve0 d k p3 hp
      refine exp_free (n := b.ds.length) (ls := ls) (key := (k : Int)) (day := d) ?_ (Option.some.inj he)
      have h3 := h2.2
      simpa [eve0] using h3
end Go.Proofs.Ytkhfkmfofhnmdaa
