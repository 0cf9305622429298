/-
  PLAIN: what the rows of a reader mean: ways of steps, and the texts that a search finds are those whose signs have few enough errors.
-/
import Derived.Test.YtonekgefegfapaaGreatGw
namespace Go.Proofs.YtonekgefegfapaaGreat
open Go.RowKit

theorem nodup_iff_at {α : Type} {l : List α} : l.Nodup ↔ ∀ (i j : Nat) (x : α), i < j → l[i]? = some x → ¬ l[j]? = some x := by
  unfold List.Nodup
  rw [List.pairwise_iff_getElem]
  constructor
  · intro h i j x hij hi hj
    obtain ⟨h1, e1⟩ := List.getElem?_eq_some_iff.1 hi
    obtain ⟨h2, e2⟩ := List.getElem?_eq_some_iff.1 hj
    exact h i j h1 h2 hij (e1.trans e2.symm)
  · intro h i j h1 h2 hij e
    exact h i j l[i] hij (List.getElem?_eq_getElem h1) (by rw [List.getElem?_eq_getElem h2, e])
/-- What has been seen of the first letters of a code. -/
def Seen (l : List ByteArray) (k : Nat) : Prop := (∀ j s, j < k → l[j]? = some s → fitB s = true ∧ flashB s = true) ∧ ∀ i j s, i < j → j < k → l[i]? = some s → ¬ l[j]? = some s
theorem seen_none (l : List ByteArray) : Seen l 0 := ⟨fun _ _ h => absurd h (Nat.not_lt_zero _), fun _ _ _ _ h => absurd h (Nat.not_lt_zero _)⟩
theorem seen_step {l : List ByteArray} {k : Nat} {s : ByteArray} (h : Seen l k) (hs : l[k]? = some s) (h1 : fitB s = true) (h2 : flashB s = true) (h3 : ∀ j, j < k → ¬ l[j]? = some s) : Seen l (k + 1) := by
  refine ⟨fun j t hj ht => ?_, fun i j t hij hj hi ht => ?_⟩
  · rcases Nat.lt_or_ge j k with hk | hk
    · exact h.1 j t hk ht
    · obtain rfl : j = k := by omega
      rw [hs] at ht
      obtain rfl := Option.some.inj ht
      exact ⟨h1, h2⟩
  · rcases Nat.lt_or_ge j k with hk | hk
    · exact h.2 i j t hij hk hi ht
    · obtain rfl : j = k := by omega
      rw [hs] at ht
      obtain rfl := Option.some.inj ht
      exact h3 i hij hi
theorem seen_all {l : List ByteArray} (h : Seen l l.length) (h0 : 0 < l.length) : codeB l = true := by
  have hn : l.Nodup := nodup_iff_at.2 fun i j s hij hi hj => h.2 i j s hij (List.getElem?_eq_some_iff.1 hj).1 hi hj
  have hf : ∀ s ∈ l, fitB s = true ∧ flashB s = true := fun s hs => by
    obtain ⟨j, hj⟩ := List.mem_iff_getElem?.1 hs
    exact h.1 j s (List.getElem?_eq_some_iff.1 hj).1 hj
  unfold codeB
  rw [decide_eq_true h0, decide_eq_true hn, List.all_eq_true.2 fun s hs => (hf s hs).1, List.all_eq_true.2 fun s hs => (hf s hs).2]
  rfl
theorem code_fit {l : List ByteArray} {k : Nat} {s : ByteArray} (hs : l[k]? = some s) (h : fitB s = false) : codeB l = false := by
  have : l.all fitB = false := by
    rw [List.all_eq_false]
    exact ⟨s, List.mem_of_getElem? hs, by rw [h]; simp⟩
  unfold codeB
  rw [this]
  simp
theorem code_flash {l : List ByteArray} {k : Nat} {s : ByteArray} (hs : l[k]? = some s) (h : flashB s = false) : codeB l = false := by
  have : l.all flashB = false := by
    rw [List.all_eq_false]
    exact ⟨s, List.mem_of_getElem? hs, by rw [h]; simp⟩
  unfold codeB
  rw [this]
  simp
theorem code_twice {l : List ByteArray} {j k : Nat} {s : ByteArray} (hs : l[k]? = some s) (hj : l[j]? = some s) (h : j < k) : codeB l = false := by
  have : ¬ l.Nodup := fun hn => nodup_iff_at.1 hn j k s h hj hs
  unfold codeB
  rw [decide_eq_false this]
  simp
theorem flash_iff (c : UInt8) : hasB [46, 45] c = true ↔ c = 46 ∨ c = 45 := by
  unfold hasB
  simp only [Lib.indexByte]
  by_cases h1 : c = 46
  · subst h1
    simp
  by_cases h2 : c = 45
  · subst h2
    simp
  have e1 : ((46 : UInt8) == c) = false := by simpa using fun h => h1 (Eq.symm h)
  have e2 : ((45 : UInt8) == c) = false := by simpa using fun h => h2 (Eq.symm h)
  simp [e1, e2, h1, h2]
/-- A list of at most 9 letters of at most 9 bytes. -/
def thinB (l : List ByteArray) : Bool := decide (l.length ≤ 9) && l.all fun s => decide (s.size ≤ 9)
theorem thin_wide {l : List ByteArray} {k : Nat} {s : ByteArray} (hs : l[k]? = some s) (h : 9 < s.size) : thinB l = false := by
  have : (l.all fun s => decide (s.size ≤ 9)) = false := by
    rw [List.all_eq_false]
    exact ⟨s, List.mem_of_getElem? hs, by simp; omega⟩
  unfold thinB
  rw [this, Bool.and_false]
theorem thin_yes {l : List ByteArray} (h9 : l.length ≤ 9) (h : ∀ j s, j < l.length → l[j]? = some s → s.size ≤ 9) : thinB l = true := by
  unfold thinB
  rw [decide_eq_true h9, Bool.true_and, List.all_eq_true]
  intro s hs
  obtain ⟨j, hj⟩ := List.mem_iff_getElem?.1 hs
  exact decide_eq_true (h j s (List.getElem?_eq_some_iff.1 hj).1 hj)
theorem thin_long {l : List ByteArray} (h9 : 9 < l.length) : thinB l = false := by
  unfold thinB
  rw [decide_eq_false (by omega), Bool.false_and]
end Go.Proofs.YtonekgefegfapaaGreat

namespace Go.Proofs.YtonekgefegfapaaGreat
open Go.RowKit

/-- A part of a text, as a list. -/
def partL (f m : Nat) (t : List Int) : List Int := (t.drop f).take m
theorem partL_at (f m : Nat) (t : List Int) (i : Nat) : (partL f m t)[i]? = if i < m then t[f + i]? else none := by
  unfold partL
  rw [List.getElem?_take, List.getElem?_drop]
theorem partX_at {f m : Nat} {t : List Int} {i : Nat} : partX t f m i = ((partL f m t)[i]?).getD (-1) := by
  rw [partL_at]
  unfold partX
  by_cases h : i < m ∧ f + i < t.length
  · rw [if_pos h, if_pos h.1, List.getD_eq_getElem?_getD, List.getElem?_eq_getElem h.2]
    rfl
  · rw [if_neg h]
    by_cases h1 : i < m
    · rw [if_pos h1, List.getElem?_eq_none (by omega)]
      rfl
    · rw [if_neg h1]
      rfl
theorem partL_in {f m : Nat} {t : List Int} {x : Int} (h : x ∈ partL f m t) : x ∈ t := List.mem_of_mem_drop (List.mem_of_mem_take h)
theorem partX_same {f m : Nat} {t u : List Int} (hm : m ≤ 5) (ht : ∀ x ∈ t, 0 ≤ x) (hu : ∀ x ∈ u, 0 ≤ x) : partP f m t = partP f m u ↔ partL f m t = partL f m u := by
  constructor
  · intro h
    have h5 : ∀ i, i < 5 → partX t f m i = partX u f m i := fun i hi => by
      unfold partP at h
      injection h with h0 h1 h2 h3 h4
      rcases i with _ | _ | _ | _ | _ | i
      · exact h0
      · exact h1
      · exact h2
      · exact h3
      · exact h4
      · omega
    apply List.ext_getElem?
    intro i
    by_cases hi : i < m
    · have h := h5 i (by omega)
      rw [partX_at, partX_at] at h
      cases h1 : (partL f m t)[i]? with
      | none =>
        cases h2 : (partL f m u)[i]? with
        | none => rfl
        | some y =>
          rw [h1, h2] at h
          have := hu y (partL_in (List.mem_of_getElem? h2))
          simp only [Option.getD_none, Option.getD_some] at h
          omega
      | some x =>
        have hx := ht x (partL_in (List.mem_of_getElem? h1))
        cases h2 : (partL f m u)[i]? with
        | none =>
          rw [h1, h2] at h
          simp only [Option.getD_none, Option.getD_some] at h
          omega
        | some y =>
          rw [h1, h2] at h
          simp only [Option.getD_some] at h
          rw [h]
    · rw [partL_at, partL_at, if_neg hi, if_neg hi]
  · intro h
    have e : partX t f m = partX u f m := by
      funext i
      rw [partX_at, partX_at, h]
    unfold partP
    rw [e]
theorem nodup_map {α β γ : Type} {f : α → β} {g : α → γ} : ∀ {l : List α}, (∀ x ∈ l, ∀ y ∈ l, f x = f y ↔ g x = g y) → ((l.map f).Nodup ↔ (l.map g).Nodup)
  | [], _ => by simp
  | x :: l, h => by
    rw [List.map_cons, List.map_cons, List.nodup_cons, List.nodup_cons, nodup_map fun y hy z hz => h y (List.mem_cons_of_mem _ hy) z (List.mem_cons_of_mem _ hz)]
    have : f x ∈ l.map f ↔ g x ∈ l.map g := by
      rw [List.mem_map, List.mem_map]
      constructor
      · rintro ⟨y, hy, e⟩
        exact ⟨y, hy, (h y (List.mem_cons_of_mem _ hy) x (List.mem_cons_self ..)).1 e⟩
      · rintro ⟨y, hy, e⟩
        exact ⟨y, hy, (h y (List.mem_cons_of_mem _ hy) x (List.mem_cons_self ..)).2 e⟩
    rw [this]
/-- A part tells texts apart, by its lists. -/
def decL (ts : List (List Int)) (f m : Nat) : Bool := decide (ts.map (partL f m)).Nodup
theorem decL_same {ts : List (List Int)} {f m : Nat} (hm : m ≤ 5) (h : ∀ t ∈ ts, ∀ x ∈ t, 0 ≤ x) : decL ts f m = decB ts f m := by
  unfold decL decB
  rw [decide_eq_decide]
  exact (nodup_map fun t ht u hu => partX_same hm (h t ht) (h u hu)).symm
/-- What a look at each pair of texts says. -/
def Apart (ts : List (List Int)) (f m n : Nat) : Prop := ∀ i j t u, i < j → j < n → ts[i]? = some t → ts[j]? = some u → ¬ partL f m t = partL f m u
theorem apart_none (ts : List (List Int)) (f m : Nat) : Apart ts f m 0 := fun _ _ _ _ _ h => absurd h (Nat.not_lt_zero _)
theorem apart_step {ts : List (List Int)} {f m n : Nat} {t : List Int} (h : Apart ts f m n) (ht : ts[n]? = some t) (hn : ∀ i u, i < n → ts[i]? = some u → ¬ partL f m u = partL f m t) : Apart ts f m (n + 1) := by
  intro i j a b hij hj ha hb
  rcases Nat.lt_or_ge j n with h1 | h1
  · exact h i j a b hij h1 ha hb
  · obtain rfl : j = n := by omega
    rw [ht] at hb
    obtain rfl := Option.some.inj hb
    exact hn i a hij ha
theorem apart_all {ts : List (List Int)} {f m : Nat} : decL ts f m = true ↔ Apart ts f m ts.length := by
  unfold decL
  rw [decide_eq_true_eq, nodup_iff_at]
  constructor
  · intro h i j t u hij _ ht hu e
    exact h i j (partL f m t) hij (by rw [List.getElem?_map, ht]; rfl) (by rw [List.getElem?_map, hu, e]; rfl)
  · intro h i j x hij hi hj
    rw [List.getElem?_map, Option.map_eq_some_iff] at hi hj
    obtain ⟨t, ht, rfl⟩ := hi
    obtain ⟨u, hu, e⟩ := hj
    exact h i j t u hij (List.getElem?_eq_some_iff.1 hu).1 ht hu e.symm
theorem decL_pair {ts : List (List Int)} {f m i j : Nat} {t u : List Int} (hij : i < j) (ht : ts[i]? = some t) (hu : ts[j]? = some u) (e : partL f m t = partL f m u) : decL ts f m = false := by
  cases h : decL ts f m with
  | false => rfl
  | true => exact absurd e (apart_all.1 h i j t u hij (List.getElem?_eq_some_iff.1 hu).1 ht hu)
/-- A part that begins behind all texts decides only if each part of no letters does. -/
theorem dec_late {ts : List (List Int)} {m : Nat} (h5 : ∀ t ∈ ts, t.length ≤ 5) (h : decL ts 5 m = true) (f m' : Nat) : decL ts f m' = true := by
  rcases ts with _ | ⟨t, _ | ⟨u, ts⟩⟩
  · rfl
  · simp [decL]
  · have := decL_pair (ts := t :: u :: ts) (f := 5) (m := m) (i := 0) (j := 1) (t := t) (u := u) (by omega) rfl rfl (by
      unfold partL
      rw [List.drop_eq_nil_of_le (h5 t (by simp)), List.drop_eq_nil_of_le (h5 u (by simp))])
    rw [h] at this
    cases this
end Go.Proofs.YtonekgefegfapaaGreat

namespace Go.Proofs.YtonekgefegfapaaGreat
open Go.RowKit

/-- A way of steps from a place to another one, with so many errors. -/
inductive Way (S R : By) : Nat × Nat → Nat × Nat → Nat → Prop
  | nil (p : Nat × Nat) : Way S R p p 0
  | step {p q r : Nat × Nat} {k e : Nat} : k < 6 → aftI S R p k = some q → Way S R q r e → Way S R p r (errsN k + e)
theorem Way.trans {S R : By} {p q r : Nat × Nat} {e f : Nat} (h : Way S R p q e) (h2 : Way S R q r f) : Way S R p r (e + f) := by
  induction h with
  | nil p => rw [Nat.zero_add]; exact h2
  | step hk hq _ ih => rw [Nat.add_assoc]; exact .step hk hq (ih h2)
theorem Way.snoc {S R : By} {p q r : Nat × Nat} {e k : Nat} (h : Way S R p q e) (hk : k < 6) (hq : aftI S R q k = some r) : Way S R p r (e + errsN k) := h.trans (.step hk hq (.nil r))
theorem Way.in_ {S R : By} {p q : Nat × Nat} {e : Nat} (h : Way S R p q e) : p.1 ≤ S.length → p.2 ≤ R.length → q.1 ≤ S.length ∧ q.2 ≤ R.length := by
  induction h with
  | nil p => exact fun h1 h2 => ⟨h1, h2⟩
  | @step p q r k e hk hq _ ih =>
    intro h1 h2
    obtain ⟨i, j⟩ := p
    obtain ⟨a, c⟩ := q
    have := aftI_in hk h1 h2 hq
    exact ih this.2.1 this.2.2.2.1
theorem Way.few {S R : By} {p q : Nat × Nat} {e : Nat} (h : Way S R p q e) : q = (S.length, R.length) → p.1 ≤ S.length → p.2 ≤ R.length → fewI S R p ≤ e := by
  induction h with
  | nil p => rintro rfl _ _; rw [fewI_end]; exact Nat.le_refl _
  | @step p q r k e hk hq _ ih =>
    intro hr h1 h2
    by_cases hp : p = (S.length, R.length)
    · rw [hp, fewI_end]; exact Nat.zero_le _
    · obtain ⟨i, j⟩ := p
      obtain ⟨a, c⟩ := q
      have hin := aftI_in hk h1 h2 hq
      have h3 := few_step h1 h2 hp hk hq
      have h4 := ih hr hin.2.1 hin.2.2.2.1
      omega
theorem few_way {S R : By} (f : Nat) : ∀ (i j : Nat), leftN S R (i, j) ≤ f → i ≤ S.length → j ≤ R.length → fewI S R (i, j) < 120 → Way S R (i, j) (S.length, R.length) (fewI S R (i, j)) := by
  induction f with
  | zero =>
    intro i j hf hi hj _
    unfold leftN at hf
    simp only at hf
    obtain rfl : i = S.length := by omega
    obtain rfl : j = R.length := by omega
    rw [fewI_end]
    exact .nil _
  | succ f ih =>
    intro i j hf hi hj h
    by_cases hp : (i, j) = (S.length, R.length)
    · rw [hp, fewI_end]
      exact .nil _
    · obtain ⟨k, ⟨a, c⟩, hk, hq, he⟩ := few_best (p := (i, j)) hi hj hp h
      have hin := aftI_in hk hi hj hq
      rw [he]
      unfold leftN at hf
      simp only at hf
      exact .step hk hq (ih a c (by unfold leftN; simp only; omega) hin.2.1 hin.2.2.2.1 (by omega))
/-- So many errors are enough. -/
theorem few_iff {S R : By} {E : Nat} (hE : E < 120) : fewI S R (0, 0) ≤ E ↔ ∃ e, e ≤ E ∧ Way S R (0, 0) (S.length, R.length) e :=
  ⟨fun h => ⟨_, h, few_way _ 0 0 (Nat.le_refl _) (Nat.zero_le _) (Nat.zero_le _) (by omega)⟩, fun ⟨_, he, h⟩ => Nat.le_trans (h.few rfl (Nat.zero_le _) (Nat.zero_le _)) he⟩
/-! ### Ways through two strings, one behind the other -/
theorem aft_shift {P Q R : By} (a c k : Nat) : aftI (P ++ Q) R (P.length + a, c) k = (aftI Q R (a, c) k).map fun q => (P.length + q.1, q.2) := by
  have e : (P ++ Q).drop (P.length + a) = Q.drop a := by rw [List.drop_append, List.drop_eq_nil_of_le (by omega), List.nil_append, Nat.add_sub_cancel_left]
  unfold aftI
  simp only [e]
  split
  · simp only [Option.map_some, Option.some.injEq, Prod.mk.injEq, and_true]
    omega
  · rfl
theorem Way.shift {P Q R : By} {p q : Nat × Nat} {e : Nat} (h : Way Q R p q e) : Way (P ++ Q) R (P.length + p.1, p.2) (P.length + q.1, q.2) e := by
  induction h with
  | nil p => exact .nil _
  | @step p q r k e hk hq _ ih => exact .step hk (by rw [aft_shift, hq]; rfl) ih
theorem Way.unshift {P Q R : By} {p q : Nat × Nat} {e : Nat} (h : Way (P ++ Q) R p q e) : ∀ a c, p = (P.length + a, c) → ∃ b d, q = (P.length + b, d) ∧ Way Q R (a, c) (b, d) e := by
  induction h with
  | nil p => exact fun a c h => ⟨a, c, h, .nil _⟩
  | @step p q r k e hk hq _ ih =>
    rintro a c rfl
    rw [aft_shift, Option.map_eq_some_iff] at hq
    obtain ⟨⟨b, d⟩, h1, rfl⟩ := hq
    obtain ⟨b', d', h2, h3⟩ := ih b d rfl
    exact ⟨b', d', h2, .step hk h1 h3⟩
theorem pre_more {l p : By} (m : By) (h : Lib.hasPrefix l p = true) : Lib.hasPrefix (l ++ m) p = true := by
  unfold Lib.hasPrefix at h ⊢
  exact List.isPrefixOf_iff_prefix.2 ((List.isPrefixOf_iff_prefix.1 h).trans (List.prefix_append l m))
theorem needs_more {k : Nat} {l : By} (m : By) (hk : k < 6) (h : needsB k l = true) : needsB k (l ++ m) = true ∧ writesL k (l ++ m) = writesL k l := by
  rcases k with _ | _ | _ | _ | _ | _ | k
  · have h0 : 0 < l.length := by simpa [needsB] using h
    refine ⟨by simp [needsB]; omega, ?_⟩
    rcases l with _ | ⟨x, l⟩
    · simp at h0
    · rfl
  · refine ⟨?_, rfl⟩
    simp only [needsB, Bool.or_eq_true] at h ⊢
    exact h.imp (pre_more m) (pre_more m)
  · exact ⟨pre_more m h, rfl⟩
  · exact ⟨pre_more m h, rfl⟩
  · exact ⟨pre_more m h, rfl⟩
  · exact ⟨rfl, rfl⟩
  · omega
theorem aft_more1 {P R : By} (Q : By) {p q : Nat × Nat} {k : Nat} (hk : k < 6) (hp : p.1 ≤ P.length) (h : aftI P R p k = some q) : aftI (P ++ Q) R p k = some q := by
  unfold aftI at h ⊢
  rw [List.drop_append_of_le_length hp]
  by_cases hc : (needsB k (P.drop p.1) && Lib.hasPrefix (R.drop p.2) (writesL k (P.drop p.1))) = true
  · rw [if_pos hc] at h
    obtain ⟨h1, h2⟩ := Bool.and_eq_true _ _ ▸ hc
    obtain ⟨m1, m2⟩ := needs_more Q hk h1
    rw [m2, if_pos (by rw [m1, h2]; rfl)]
    exact h
  · rw [if_neg hc] at h
    cases h
theorem Way.more1 {P R : By} (Q : By) {p q : Nat × Nat} {e : Nat} (h : Way P R p q e) : p.1 ≤ P.length → p.2 ≤ R.length → Way (P ++ Q) R p q e := by
  induction h with
  | nil p => exact fun _ _ => .nil _
  | @step p q r k e hk hq _ ih =>
    intro h1 h2
    obtain ⟨i, j⟩ := p
    obtain ⟨a, c⟩ := q
    have hin := aftI_in hk h1 h2 hq
    exact .step hk (aft_more1 Q hk h1 hq) (ih hin.2.1 hin.2.2.2.1)
/-- The second string begins with a gap, or one of them is empty: no step goes through both. -/
def Gap (P Q : By) : Prop := P = [] ∨ Q = [] ∨ ∃ T, Q = 32 :: T
theorem pre_cons {x c : UInt8} {l p : By} : Lib.hasPrefix (x :: l) (c :: p) = (c == x && Lib.hasPrefix l p) := rfl
theorem aft_less {P Q R : By} (hg : Gap P Q) {a c k : Nat} {q : Nat × Nat} (hk : k < 6) (ha : a < P.length) (h : aftI (P ++ Q) R (a, c) k = some q) : aftI P R (a, c) k = some q ∧ q.1 ≤ P.length := by
  have e : (P ++ Q).drop a = P.drop a ++ Q := List.drop_append_of_le_length (by omega)
  have hl : 0 < (P.drop a).length := by rw [List.length_drop]; omega
  obtain ⟨x, t, hx⟩ : ∃ x t, P.drop a = x :: t := by
    cases hd : P.drop a with
    | nil => rw [hd] at hl; simp at hl
    | cons x t => exact ⟨x, t, rfl⟩
  have hn : needsB k (P.drop a ++ Q) = true → needsB k (P.drop a) = true := by
    rw [hx]
    intro hn
    rcases k with _ | _ | _ | _ | _ | _ | k
    · simp [needsB]
    · exact hn
    · exact hn
    · simp only [needsB] at hn ⊢
      rw [List.cons_append, pre_cons] at hn
      rw [pre_cons]
      rcases t with _ | ⟨y, t⟩
      · rcases hg with rfl | rfl | ⟨T, rfl⟩
        · simp at ha
        · simp [Lib.hasPrefix] at hn
        · simp [Lib.hasPrefix, List.isPrefixOf] at hn
      · exact hn
    · exact hn
    · rfl
    · omega
  have hw : writesL k (P.drop a ++ Q) = writesL k (P.drop a) := by
    rw [hx]
    rcases k with _ | _ | _ | _ | _ | _ | k <;> rfl
  have h2 : aftI P R (a, c) k = some q := by
    unfold aftI at h ⊢
    rw [e, hw] at h
    by_cases hc : (needsB k (P.drop a ++ Q) && Lib.hasPrefix (R.drop c) (writesL k (P.drop a))) = true
    · rw [if_pos hc] at h
      obtain ⟨h1, h2⟩ := Bool.and_eq_true _ _ ▸ hc
      rw [if_pos (by rw [hn h1, h2]; rfl)]
      exact h
    · rw [if_neg hc] at h
      cases h
  refine ⟨h2, ?_⟩
  unfold aftI at h2
  split at h2
  · rename_i hc
    have h1 := (Bool.and_eq_true _ _ ▸ hc : _ ∧ _).1
    have := takes_in hk h1
    rw [List.length_drop] at this
    injection h2 with h2
    rw [← h2]
    simp only at this ⊢
    omega
  · cases h2
theorem Way.split {P Q R : By} (hg : Gap P Q) {p q : Nat × Nat} {e : Nat} (h : Way (P ++ Q) R p q e) : ∀ d, q = (P.length + Q.length, d) → p.1 ≤ P.length → p.2 ≤ R.length → ∃ c0 e0 e1, Way P R p (P.length, c0) e0 ∧ Way Q R (0, c0) (Q.length, d) e1 ∧ e = e0 + e1 ∧ c0 ≤ R.length := by
  have last : ∀ {p q : Nat × Nat} {e : Nat}, Way (P ++ Q) R p q e → ∀ d, q = (P.length + Q.length, d) → p.1 = P.length → p.2 ≤ R.length → ∃ c0 e0 e1, Way P R p (P.length, c0) e0 ∧ Way Q R (0, c0) (Q.length, d) e1 ∧ e = e0 + e1 ∧ c0 ≤ R.length := by
    intro p q e h d hq hp h2
    obtain ⟨a, c⟩ := p
    simp only at hp h2
    subst hp
    obtain ⟨b, d', hb, hw⟩ := h.unshift 0 c rfl
    rw [hq] at hb
    injection hb with hb1 hb2
    obtain rfl : b = Q.length := by omega
    subst hb2
    exact ⟨c, 0, e, .nil _, hw, by omega, h2⟩
  induction h with
  | nil p =>
    intro d hq h1 h2
    subst hq
    simp only at h1
    exact last (.nil _) d rfl (by simp only; omega) h2
  | @step p q r k e hk hq hw ih =>
    intro d hr h1 h2
    by_cases hp : p.1 = P.length
    · exact last (.step hk hq hw) d hr hp h2
    · obtain ⟨a, c⟩ := p
      simp only at h1 h2 hp
      obtain ⟨h3, h4⟩ := aft_less hg hk (by omega) hq
      obtain ⟨i, j⟩ := q
      have hin := aftI_in hk h1 h2 h3
      obtain ⟨c0, e0, e1, w0, w1, he, hc⟩ := ih d hr h4 hin.2.2.2.1
      exact ⟨c0, errsN k + e0, e1, .step hk h3 w0, w1, by omega, hc⟩
/-- A way through both is a way through each. -/
theorem way_both {P Q R : By} (hg : Gap P Q) {d e : Nat} : Way (P ++ Q) R (0, 0) (P.length + Q.length, d) e ↔ ∃ c0 e0 e1, Way P R (0, 0) (P.length, c0) e0 ∧ Way Q R (0, c0) (Q.length, d) e1 ∧ e = e0 + e1 ∧ c0 ≤ R.length := by
  constructor
  · intro h
    exact h.split hg d rfl (Nat.zero_le _) (Nat.zero_le _)
  · rintro ⟨c0, e0, e1, w0, w1, rfl, _⟩
    exact (w0.more1 Q (Nat.zero_le _) (Nat.zero_le _)).trans w1.shift
/-! ### The rows -/
theorem getD_set {st : List Nat} {n : Nat} (m v : Nat) (hn : n < st.length) : (st.set n v).getD m 120 = if n = m then v else st.getD m 120 := by
  rw [List.getD_eq_getElem?_getD, List.getElem?_set, List.getD_eq_getElem?_getD]
  by_cases h : n = m
  · subst h
    rw [if_pos rfl, if_pos hn, if_pos rfl]
    rfl
  · rw [if_neg h, if_neg h]
def idx (x : Nat × Nat × Nat) : Nat := x.2.1 * 41 + x.2.2
theorem step_get {E e : Nat} {st : List Nat} {x : Nat × Nat × Nat} (hx : idx x < st.length) (m : Nat) : (stepN E e st x).getD m 120 = if idx x = m ∧ e + errsN x.1 ≤ E then min (st.getD m 120) (e + errsN x.1) else st.getD m 120 := by
  unfold stepN
  by_cases h : e + errsN x.1 ≤ E
  · rw [if_pos h]
    have hs := getD_set (st := st) m (min (st.getD (x.2.1 * 41 + x.2.2) 120) (e + errsN x.1)) hx
    unfold idx at hs
    rw [hs]
    unfold idx
    by_cases h2 : x.2.1 * 41 + x.2.2 = m
    · rw [if_pos h2, if_pos ⟨h2, h⟩, ← h2]
    · rw [if_neg h2, if_neg fun q => h2 q.1]
  · rw [if_neg h, if_neg fun q => h q.2]
theorem step_len {E e : Nat} {st : List Nat} (x : Nat × Nat × Nat) : (stepN E e st x).length = st.length := by
  unfold stepN
  split
  · rw [List.length_set]
  · rfl
theorem steps_len {E e : Nat} : ∀ (L : List (Nat × Nat × Nat)) (st : List Nat), (L.foldl (stepN E e) st).length = st.length
  | [], _ => rfl
  | x :: L, st => by rw [List.foldl_cons, steps_len L, step_len]
theorem steps_le {E e : Nat} (m : Nat) : ∀ (L : List (Nat × Nat × Nat)) (st : List Nat), (∀ x ∈ L, idx x < st.length) → (L.foldl (stepN E e) st).getD m 120 ≤ st.getD m 120
  | [], _, _ => Nat.le_refl _
  | x :: L, st, h => by
    rw [List.foldl_cons]
    refine Nat.le_trans (steps_le m L _ fun y hy => by rw [step_len]; exact h y (List.mem_cons_of_mem _ hy)) ?_
    rw [step_get (h x (List.mem_cons_self ..))]
    split
    · exact Nat.min_le_left _ _
    · exact Nat.le_refl _
theorem steps_same {E e : Nat} (m : Nat) : ∀ (L : List (Nat × Nat × Nat)) (st : List Nat), (∀ x ∈ L, idx x < st.length) → (∀ x ∈ L, idx x ≠ m) → (L.foldl (stepN E e) st).getD m 120 = st.getD m 120
  | [], _, _, _ => rfl
  | x :: L, st, h, hm => by
    rw [List.foldl_cons, steps_same m L _ (fun y hy => by rw [step_len]; exact h y (List.mem_cons_of_mem _ hy)) (fun y hy => hm y (List.mem_cons_of_mem _ hy)), step_get (h x (List.mem_cons_self ..)), if_neg fun q => hm x (List.mem_cons_self ..) q.1]
theorem steps_hit {E e : Nat} {x : Nat × Nat × Nat} (he : e + errsN x.1 ≤ E) : ∀ (L : List (Nat × Nat × Nat)) (st : List Nat), (∀ x ∈ L, idx x < st.length) → x ∈ L → (L.foldl (stepN E e) st).getD (idx x) 120 ≤ e + errsN x.1
  | y :: L, st, h, hx => by
    rw [List.foldl_cons]
    rcases List.mem_cons.1 hx with rfl | hx
    · refine Nat.le_trans (steps_le _ L _ fun y hy => by rw [step_len]; exact h y (List.mem_cons_of_mem _ hy)) ?_
      rw [step_get (h x (List.mem_cons_self ..)), if_pos ⟨rfl, he⟩]
      exact Nat.min_le_right _ _
    · exact steps_hit he L _ (fun y hy => by rw [step_len]; exact h y (List.mem_cons_of_mem _ hy)) hx
theorem steps_from {E e : Nat} (m : Nat) : ∀ (L : List (Nat × Nat × Nat)) (st : List Nat), (∀ x ∈ L, idx x < st.length) → (L.foldl (stepN E e) st).getD m 120 = st.getD m 120 ∨ ∃ x ∈ L, idx x = m ∧ e + errsN x.1 ≤ E ∧ (L.foldl (stepN E e) st).getD m 120 = e + errsN x.1
  | [], _, _ => .inl rfl
  | x :: L, st, h => by
    rw [List.foldl_cons]
    rcases steps_from (E := E) (e := e) m L (stepN E e st x) (fun y hy => by rw [step_len]; exact h y (List.mem_cons_of_mem _ hy)) with h1 | ⟨y, hy, h1, h2, h3⟩
    · rw [h1, step_get (h x (List.mem_cons_self ..))]
      by_cases hc : idx x = m ∧ e + errsN x.1 ≤ E
      · rw [if_pos hc]
        by_cases hm : st.getD m 120 ≤ e + errsN x.1
        · exact .inl (Nat.min_eq_left hm)
        · exact .inr ⟨x, List.mem_cons_self .., hc.1, hc.2, Nat.min_eq_right (by omega)⟩
      · rw [if_neg hc]
        exact .inl rfl
    · exact .inr ⟨y, List.mem_cons_of_mem _ hy, h1, h2, h3⟩
/-- What is known of the rows when all places ahead of (i, j) are done. -/
structure Rel (Q R : By) (E : Nat) (bf : List Nat) (i j : Nat) (st : List Nat) : Prop where
  len : st.length = (Q.length + 1) * 41
  sound : ∀ a c, a ≤ Q.length → c ≤ R.length → st.getD (a * 41 + c) 120 = 120 ∨ st.getD (a * 41 + c) 120 ≤ E ∧ ∃ c0 e1, c0 ≤ R.length ∧ Way Q R (0, c0) (a, c) e1 ∧ bf.getD c0 120 ≠ 120 ∧ st.getD (a * 41 + c) 120 = bf.getD c0 120 + e1
  full : ∀ a c, (a < i ∨ a = i ∧ c < j) → a ≤ Q.length → c ≤ R.length → st.getD (a * 41 + c) 120 ≠ 120 → ∀ k b d, k < 6 → aftI Q R (a, c) k = some (b, d) → st.getD (a * 41 + c) 120 + errsN k ≤ E → st.getD (b * 41 + d) 120 ≤ st.getD (a * 41 + c) 120 + errsN k
  first : ∀ c, c ≤ R.length → st.getD c 120 ≤ bf.getD c 120
  out : ∀ a c, a ≤ Q.length → R.length < c → c < 41 → st.getD (a * 41 + c) 120 = 120
theorem Rel.relax {Q R : By} {E i j : Nat} {bf st : List Nat} (hR : R.length ≤ 40) (hE : E < 120) (hi : i ≤ Q.length) (hj : j ≤ R.length) (h : Rel Q R E bf i j st) : Rel Q R E bf i (j + 1) (relaxN Q R E st i j) := by
  unfold relaxN
  obtain ⟨e, he⟩ : ∃ e, st.getD (i * 41 + j) 120 = e := ⟨_, rfl⟩
  rw [he]
  by_cases h120 : e = 120
  · rw [if_pos h120]
    refine ⟨h.len, h.sound, fun a c hac ha hc hne => ?_, h.first, h.out⟩
    rcases hac with h1 | ⟨rfl, h1⟩
    · exact h.full a c (.inl h1) ha hc hne
    · by_cases h2 : c < j
      · exact h.full a c (.inr ⟨rfl, h2⟩) ha hc hne
      · obtain rfl : c = j := by omega
        exact absurd (he.trans h120) hne
  · rw [if_neg h120]
    have hin : ∀ x ∈ nextI Q R (i, j), idx x < st.length ∧ x.1 < 6 ∧ aftI Q R (i, j) x.1 = some x.2 ∧ i ≤ x.2.1 ∧ x.2.1 ≤ Q.length ∧ j ≤ x.2.2 ∧ x.2.2 ≤ R.length ∧ i + j < x.2.1 + x.2.2 := fun x hx => by
      obtain ⟨k, a, c⟩ := x
      obtain ⟨h1, h2⟩ := nextI_mem hx
      have h3 := aftI_in h1 hi hj h2
      refine ⟨?_, h1, h2, h3⟩
      rw [h.len]
      unfold idx
      simp only
      omega
    have hl : ∀ x ∈ nextI Q R (i, j), idx x < st.length := fun x hx => (hin x hx).1
    obtain ⟨sN, hsN⟩ : ∃ s, (nextI Q R (i, j)).foldl (stepN E e) st = s := ⟨_, rfl⟩
    have hle : ∀ m, sN.getD m 120 ≤ st.getD m 120 := fun m => by rw [← hsN]; exact steps_le m _ _ hl
    have hsame : ∀ a c, c < 41 → (a < i ∨ a = i ∧ c ≤ j) → sN.getD (a * 41 + c) 120 = st.getD (a * 41 + c) 120 := fun a c hc hac => by
      rw [← hsN]
      refine steps_same _ _ _ hl fun x hx => ?_
      have := hin x hx
      unfold idx
      omega
    have hfrom : ∀ m, sN.getD m 120 = st.getD m 120 ∨ ∃ x ∈ nextI Q R (i, j), idx x = m ∧ e + errsN x.1 ≤ E ∧ sN.getD m 120 = e + errsN x.1 := fun m => by rw [← hsN]; exact steps_from m _ _ hl
    have hhit : ∀ k b d, k < 6 → aftI Q R (i, j) k = some (b, d) → e + errsN k ≤ E → sN.getD (b * 41 + d) 120 ≤ e + errsN k := fun k b d hk hq hke => by
      rw [← hsN]
      exact steps_hit (x := (k, b, d)) hke _ _ hl (List.mem_filterMap.2 ⟨k, List.mem_range.2 hk, by rw [hq]; rfl⟩)
    rw [hsN]
    refine ⟨by rw [← hsN, steps_len]; exact h.len, fun a c ha hc => ?_, fun a c hac ha hc hne k b d hk hq hke => ?_, fun c hc => Nat.le_trans (hle c) (h.first c hc), fun a c ha hc h41 => ?_⟩
    · rcases hfrom (a * 41 + c) with h1 | ⟨x, hx, h1, h2, h3⟩
      · rw [h1]
        exact h.sound a c ha hc
      · have hx' := hin x hx
        obtain ⟨k, b, d⟩ := x
        unfold idx at h1
        simp only at h1 h2 h3 hx'
        obtain rfl : b = a := by omega
        obtain rfl : d = c := by omega
        rcases h.sound i j hi hj with h4 | ⟨_, c0, e1, q1, q2, q3, q4⟩
        · exact absurd (he.symm.trans h4) h120
        · refine .inr ⟨by omega, c0, e1 + errsN k, q1, q2.snoc hx'.2.1 hx'.2.2.1, q3, ?_⟩
          rw [h3]
          omega
    · have hac2 : a < i ∨ a = i ∧ c ≤ j := by omega
      have hs := hsame a c (by omega) hac2
      rw [hs] at hne hke ⊢
      by_cases hnew : a = i ∧ c = j
      · obtain ⟨rfl, rfl⟩ := hnew
        rw [he] at hke ⊢
        exact hhit k b d hk hq hke
      · exact Nat.le_trans (hle _) (h.full a c (by omega) ha hc hne k b d hk hq hke)
    · rcases hfrom (a * 41 + c) with h1 | ⟨x, hx, h1, _, _⟩
      · rw [h1]
        exact h.out a c ha hc h41
      · have hx' := hin x hx
        unfold idx at h1
        omega
theorem Rel.row {Q R : By} {E i : Nat} {bf st : List Nat} (hR : R.length ≤ 40) (hE : E < 120) (hi : i ≤ Q.length) (h : Rel Q R E bf i 0 st) : ∀ j, j ≤ R.length + 1 → Rel Q R E bf i j (rowF Q R E i j st)
  | 0, _ => h
  | j + 1, hj => by rw [rowF_succ]; exact (Rel.row hR hE hi h j (by omega)).relax hR hE hi (by omega)
theorem Rel.next {Q R : By} {E i : Nat} {bf st : List Nat} (h : Rel Q R E bf i (R.length + 1) st) : Rel Q R E bf (i + 1) 0 st :=
  ⟨h.len, h.sound, fun a c hac ha hc => h.full a c (by omega) ha hc, h.first, h.out⟩
theorem Rel.rows {Q R : By} {E : Nat} {bf st : List Nat} (hR : R.length ≤ 40) (hE : E < 120) (h : Rel Q R E bf 0 0 st) : ∀ i, i ≤ Q.length + 1 → Rel Q R E bf i 0 (rowsF Q R E i st)
  | 0, _ => h
  | i + 1, hi => by rw [rowsF_succ]; exact ((Rel.rows hR hE h i (by omega)).row hR hE (by omega) _ (Nat.le_refl _)).next
/-- What a row says that stands behind a string's signs. -/
structure RowIs (P R : By) (E : Nat) (r : List Nat) : Prop where
  len : r.length = 41
  sound : ∀ c, c ≤ R.length → r.getD c 120 = 120 ∨ r.getD c 120 ≤ E ∧ Way P R (0, 0) (P.length, c) (r.getD c 120)
  full : ∀ c e, c ≤ R.length → e ≤ E → Way P R (0, 0) (P.length, c) e → r.getD c 120 ≤ e
  out : ∀ c, R.length < c → c < 41 → r.getD c 120 = 120
theorem rel_start {Q R : By} {E : Nat} {bf : List Nat} (hlen : bf.length = 41) (hs : ∀ c, c ≤ R.length → bf.getD c 120 = 120 ∨ bf.getD c 120 ≤ E) (ho : ∀ c, R.length < c → c < 41 → bf.getD c 120 = 120) : Rel Q R E bf 0 0 (bf ++ List.replicate (Q.length * 41) 120) := by
  have hget : ∀ a c, c < 41 → (bf ++ List.replicate (Q.length * 41) 120).getD (a * 41 + c) 120 = if a = 0 then bf.getD c 120 else 120 := fun a c hc => by
    by_cases ha : a = 0
    · subst ha
      rw [if_pos rfl, List.getD_eq_getElem?_getD, List.getElem?_append_left (by omega), List.getD_eq_getElem?_getD]
      simp
    · rw [if_neg ha, List.getD_eq_getElem?_getD, List.getElem?_append_right (by omega), List.getElem?_replicate]
      split <;> rfl
  refine ⟨by rw [List.length_append, List.length_replicate, hlen]; omega, fun a c ha hc => ?_, fun a c hac => by omega, fun c hc => ?_, fun a c ha hc h41 => ?_⟩
  · by_cases h41 : c < 41
    · rw [hget a c h41]
      by_cases ha : a = 0
      · subst ha
        rw [if_pos rfl]
        rcases hs c hc with h | h
        · exact .inl h
        · by_cases h120 : bf.getD c 120 = 120
          · exact .inl h120
          · exact .inr ⟨h, c, 0, hc, .nil _, h120, rfl⟩
      · rw [if_neg ha]
        exact .inl rfl
    · by_cases h : a * 41 + c < 41
      · omega
      · left
        rw [List.getD_eq_getElem?_getD, List.getElem?_append_right (by omega), List.getElem?_replicate]
        split <;> rfl
  · by_cases h41 : c < 41
    · have := hget 0 c h41
      rw [Nat.zero_mul, Nat.zero_add, if_pos rfl] at this
      rw [this]
      exact Nat.le_refl _
    · rw [List.getD_eq_getElem?_getD, List.getD_eq_getElem?_getD, List.getElem?_append_right (by omega), List.getElem?_eq_none (l := bf) (by omega), List.getElem?_replicate]
      split <;> exact Nat.le_refl _
  · rw [hget a c h41]
    split
    · exact ho c hc h41
    · rfl
theorem send_len (Q R : By) (E : Nat) {bf : List Nat} (hlen : bf.length = 41) (hs : ∀ x ∈ bf, x ≤ 120) : (sendN Q R E bf).length = 41 := by
  have h0 : OkL (Q.length + 1) (bf ++ List.replicate (Q.length * 41) 120) := by
    refine ⟨by rw [List.length_append, List.length_replicate, hlen]; omega, fun x hx => ?_⟩
    rcases List.mem_append.1 hx with hx | hx
    · exact hs x hx
    · rw [(List.mem_replicate.1 hx).2]
      exact Nat.le_refl _
  have := (h0.rows (E := E) (S := Q) (R := R) (Q.length + 1)).1
  unfold sendN
  rw [List.length_drop, this]
  omega
theorem send_full {Q R : By} {E : Nat} {bf st : List Nat} {i : Nat} (hi : Q.length < i) (h : Rel Q R E bf i 0 st) {p q : Nat × Nat} {e : Nat} (hw : Way Q R p q e) : ∀ v, p.1 ≤ Q.length → p.2 ≤ R.length → st.getD (p.1 * 41 + p.2) 120 ≤ v → v + e ≤ E → E < 120 → st.getD (q.1 * 41 + q.2) 120 ≤ v + e := by
  induction hw with
  | nil p => intro v _ _ hv _ _; exact hv
  | @step p q r k e hk hq _ ih =>
    intro v h1 h2 hv he hE
    obtain ⟨a, c⟩ := p
    obtain ⟨b, d⟩ := q
    simp only at h1 h2 hv
    have hin := aftI_in hk h1 h2 hq
    have h3 := h.full a c (by omega) h1 h2 (by omega) k b d hk hq (by omega)
    have := ih (v + errsN k) hin.2.1 hin.2.2.2.1 (by simp only; omega) (by omega) hE
    omega
/-- **A letter's signs more**: the row behind them. -/
theorem send_is {P Q R : By} {E : Nat} {bf : List Nat} (hR : R.length ≤ 40) (hE : E < 120) (hg : Gap P Q) (h : RowIs P R E bf) (h120 : ∀ x ∈ bf, x ≤ 120) : RowIs (P ++ Q) R E (sendN Q R E bf) := by
  have h0 := rel_start (Q := Q) (R := R) (E := E) h.len (fun c hc => (h.sound c hc).imp id fun q => q.1) h.out
  have hF := h0.rows hR hE (Q.length + 1) (Nat.le_refl _)
  have hget : ∀ c, (sendN Q R E bf).getD c 120 = (rowsF Q R E (Q.length + 1) (bf ++ List.replicate (Q.length * 41) 120)).getD (Q.length * 41 + c) 120 := fun c => by
    unfold sendN
    rw [List.getD_eq_getElem?_getD, List.getElem?_drop, List.getD_eq_getElem?_getD]
  refine ⟨send_len Q R E h.len h120, fun c hc => ?_, fun c e hc he hw => ?_, fun c hc h41 => ?_⟩
  · rw [hget c]
    rcases hF.sound Q.length c (Nat.le_refl _) hc with h1 | ⟨h1, c0, e1, q1, q2, q3, q4⟩
    · exact .inl h1
    · refine .inr ⟨h1, ?_⟩
      rcases h.sound c0 q1 with h2 | ⟨h2, h3⟩
      · exact absurd h2 q3
      · rw [q4, List.length_append]
        exact (way_both hg).2 ⟨c0, _, e1, h3, q2, rfl, q1⟩
  · rw [List.length_append] at hw
    obtain ⟨c0, e0, e1, w0, w1, rfl, hc0⟩ := (way_both hg).1 hw
    have h1 := h.full c0 e0 hc0 (by omega) w0
    have h2 := hF.first c0 hc0
    rw [hget c]
    exact send_full (Nat.lt_succ_self _) hF w1 e0 (Nat.zero_le _) hc0 (by simp only [Nat.zero_mul, Nat.zero_add]; omega) he hE
  · rw [hget c]
    exact hF.out Q.length c (Nat.le_refl _) hc h41
theorem send_120 {Q R : By} {E : Nat} {bf : List Nat} (hlen : bf.length = 41) (hs : ∀ x ∈ bf, x ≤ 120) : ∀ x ∈ sendN Q R E bf, x ≤ 120 := by
  have h0 : OkL (Q.length + 1) (bf ++ List.replicate (Q.length * 41) 120) := by
    refine ⟨by rw [List.length_append, List.length_replicate, hlen]; omega, fun x hx => ?_⟩
    rcases List.mem_append.1 hx with hx | hx
    · exact hs x hx
    · rw [(List.mem_replicate.1 hx).2]
      exact Nat.le_refl _
  have := (h0.rows (E := E) (S := Q) (R := R) (Q.length + 1)).2
  intro x hx
  unfold sendN at hx
  exact this x (List.mem_of_mem_drop hx)
theorem hope_get (c : Nat) : (hopeL 41).getD c 120 = 120 := by
  unfold hopeL
  rw [List.getD_eq_getElem?_getD, Nat.sub_self, List.replicate_zero, List.append_nil, List.getElem?_replicate]
  split <;> rfl
/-- The row ahead of the first letter. -/
theorem start_is {R : By} {E : Nat} (hR : R.length ≤ 40) (hE : E < 120) : RowIs [] R E (startN R E) ∧ ∀ x ∈ startN R E, x ≤ 120 := by
  have hb : ((hopeL 41).set 0 0).length = 41 := by rw [List.length_set]; rfl
  have h120 := start_ok.2
  have hg : ∀ c, ((hopeL 41).set 0 0).getD c 120 = if c = 0 then 0 else 120 := fun c => by
    rw [getD_set _ _ (by decide)]
    by_cases h : c = 0
    · subst h; rfl
    · rw [if_neg (fun e => h e.symm), if_neg h, hope_get]
  have h0 := rel_start (Q := []) (R := R) (E := E) hb (fun c _ => by
    rw [hg c]
    split
    · exact .inr (Nat.zero_le _)
    · exact .inl rfl) (fun c hc _ => by rw [hg c, if_neg (by omega)])
  have hF := h0.rows hR hE 1 (Nat.le_refl _)
  have hget : ∀ c, (startN R E).getD c 120 = (rowsF [] R E 1 ((hopeL 41).set 0 0 ++ List.replicate (([] : By).length * 41) 120)).getD c 120 := fun c => by
    unfold startN sendN
    rw [List.getD_eq_getElem?_getD, List.getElem?_drop, List.getD_eq_getElem?_getD]
    simp only [List.length_nil, Nat.zero_mul, Nat.zero_add]
  refine ⟨⟨send_len [] R E hb h120, fun c hc => ?_, fun c e hc he hw => ?_, fun c hc h41 => ?_⟩, send_120 hb h120⟩
  · rw [hget c]
    have h1 := hF.sound 0 c (Nat.zero_le _) hc
    rw [Nat.zero_mul, Nat.zero_add] at h1
    rcases h1 with h1 | ⟨h1, c0, e1, q1, q2, q3, q4⟩
    · exact .inl h1
    · rw [hg c0] at q3 q4
      by_cases h : c0 = 0
      · subst h
        rw [if_pos rfl, Nat.zero_add] at q4
        refine .inr ⟨h1, ?_⟩
        rw [q4]
        exact q2
      · rw [if_neg h] at q3
        exact absurd rfl q3
  · rw [hget c]
    have h2 := hF.first 0 (Nat.zero_le _)
    rw [hg 0, if_pos rfl] at h2
    have h3 := send_full (Nat.lt_succ_self _) hF hw 0 (Nat.zero_le _) (Nat.zero_le _) (by simpa using h2) (by omega) hE
    simpa using h3
  · rw [hget c]
    have := hF.out 0 c (Nat.zero_le _) hc h41
    rwa [Nat.zero_mul, Nat.zero_add] at this
end Go.Proofs.YtonekgefegfapaaGreat

