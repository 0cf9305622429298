/-
  FlashDecides holds: the lift.
-/
import Derived.Test.YtonekgefegfapaaGreatGq
import Derived.Test.YtonekgefegfapaaGreatGr
namespace Go.Proofs.YtonekgefegfapaaGreat
open Go.RowKit

set_option maxRecDepth 100000 in
theorem In_b (x a b : Int) (v : Bool) (w : World) (h : (decide (a ≤ x) && decide (x ≤ b)) = v) : Calls Tryz.prog 36 #[iv x, iv a, iv b] w fun e w' => e = .returned (.bool v) ∧ Below w.heap.size w w' := by
  by_cases h1 : a ≤ x
  · by_cases h2 : x ≤ b
    · obtain rfl : true = v := by rw [← h, decide_eq_true h1, decide_eq_true h2]; rfl
      clear h
      go_enter Tryz.func36, Tryz.ntmps36
      go_wp2_with fail
      go_ret
      exact ⟨rfl, up0⟩
    · obtain rfl : false = v := by rw [← h, decide_eq_true h1, decide_eq_false h2]; rfl
      clear h
      go_enter Tryz.func36, Tryz.ntmps36
      go_wp2_with fail
      go_ret
      exact ⟨rfl, up0⟩
  · obtain rfl : false = v := by rw [← h, decide_eq_false h1]; rfl
    clear h
    go_enter Tryz.func36, Tryz.ntmps36
    go_wp2_with fail
    go_ret
    exact ⟨rfl, up0⟩
theorem all_take {α : Type} {p : α → Bool} {l : List α} {k : Nat} {x : α} (hx : l[k]? = some x) : (l.take (k + 1)).all p = ((l.take k).all p && p x) := by
  rw [List.take_add_one, hx]
  simp
end Go.Proofs.YtonekgefegfapaaGreat

namespace Go.Proofs.YtonekgefegfapaaGreat
open Go.RowKit

theorem nodup_iff_at {α : Type} {l : List α} : l.Nodup ↔ ∀ (i j : Nat) (x : α), i < j → l[i]? = some x → ¬ l[j]? = some x := by
  unfold List.Nodup
  rw [List.pairwise_iff_getElem]
  constructor
  · intro h i j x hij hi hj
    obtain ⟨h1, e1⟩ := List.getElem?_eq_some_iff.1 hi
    obtain ⟨h2, e2⟩ := List.getElem?_eq_some_iff.1 hj
    exact h i j h1 h2 hij (e1.trans e2.symm)
  · intro h i j h1 h2 hij e
    exact h i j l[i] hij (List.getElem?_eq_getElem h1) (by rw [List.getElem?_eq_getElem h2, e])
/-- What has been seen of the first letters of a code. -/
def Seen (l : List ByteArray) (k : Nat) : Prop := (∀ j s, j < k → l[j]? = some s → fitB s = true ∧ flashB s = true) ∧ ∀ i j s, i < j → j < k → l[i]? = some s → ¬ l[j]? = some s
theorem seen_none (l : List ByteArray) : Seen l 0 := ⟨fun _ _ h => absurd h (Nat.not_lt_zero _), fun _ _ _ _ h => absurd h (Nat.not_lt_zero _)⟩
theorem seen_step {l : List ByteArray} {k : Nat} {s : ByteArray} (h : Seen l k) (hs : l[k]? = some s) (h1 : fitB s = true) (h2 : flashB s = true) (h3 : ∀ j, j < k → ¬ l[j]? = some s) : Seen l (k + 1) := by
  refine ⟨fun j t hj ht => ?_, fun i j t hij hj hi ht => ?_⟩
  · rcases Nat.lt_or_ge j k with hk | hk
    · exact h.1 j t hk ht
    · obtain rfl : j = k := by omega
      rw [hs] at ht
      obtain rfl := Option.some.inj ht
      exact ⟨h1, h2⟩
  · rcases Nat.lt_or_ge j k with hk | hk
    · exact h.2 i j t hij hk hi ht
    · obtain rfl : j = k := by omega
      rw [hs] at ht
      obtain rfl := Option.some.inj ht
      exact h3 i hij hi
theorem seen_all {l : List ByteArray} (h : Seen l l.length) (h0 : 0 < l.length) : codeB l = true := by
  have hn : l.Nodup := nodup_iff_at.2 fun i j s hij hi hj => h.2 i j s hij (List.getElem?_eq_some_iff.1 hj).1 hi hj
  have hf : ∀ s ∈ l, fitB s = true ∧ flashB s = true := fun s hs => by
    obtain ⟨j, hj⟩ := List.mem_iff_getElem?.1 hs
    exact h.1 j s (List.getElem?_eq_some_iff.1 hj).1 hj
  unfold codeB
  rw [decide_eq_true h0, decide_eq_true hn, List.all_eq_true.2 fun s hs => (hf s hs).1, List.all_eq_true.2 fun s hs => (hf s hs).2]
  rfl
theorem code_fit {l : List ByteArray} {k : Nat} {s : ByteArray} (hs : l[k]? = some s) (h : fitB s = false) : codeB l = false := by
  have : l.all fitB = false := by
    rw [List.all_eq_false]
    exact ⟨s, List.mem_of_getElem? hs, by rw [h]; simp⟩
  unfold codeB
  rw [this]
  simp
theorem code_flash {l : List ByteArray} {k : Nat} {s : ByteArray} (hs : l[k]? = some s) (h : flashB s = false) : codeB l = false := by
  have : l.all flashB = false := by
    rw [List.all_eq_false]
    exact ⟨s, List.mem_of_getElem? hs, by rw [h]; simp⟩
  unfold codeB
  rw [this]
  simp
theorem code_twice {l : List ByteArray} {j k : Nat} {s : ByteArray} (hs : l[k]? = some s) (hj : l[j]? = some s) (h : j < k) : codeB l = false := by
  have : ¬ l.Nodup := fun hn => nodup_iff_at.1 hn j k s h hj hs
  unfold codeB
  rw [decide_eq_false this]
  simp
theorem flash_iff (c : UInt8) : hasB [46, 45] c = true ↔ c = 46 ∨ c = 45 := by
  unfold hasB
  simp only [Lib.indexByte]
  by_cases h1 : c = 46
  · subst h1
    simp
  by_cases h2 : c = 45
  · subst h2
    simp
  have e1 : ((46 : UInt8) == c) = false := by simpa using fun h => h1 (Eq.symm h)
  have e2 : ((45 : UInt8) == c) = false := by simpa using fun h => h2 (Eq.symm h)
  simp [e1, e2, h1, h2]
/-- A list of at most 9 letters of at most 9 bytes. -/
def thinB (l : List ByteArray) : Bool := decide (l.length ≤ 9) && l.all fun s => decide (s.size ≤ 9)
theorem thin_wide {l : List ByteArray} {k : Nat} {s : ByteArray} (hs : l[k]? = some s) (h : 9 < s.size) : thinB l = false := by
  have : (l.all fun s => decide (s.size ≤ 9)) = false := by
    rw [List.all_eq_false]
    exact ⟨s, List.mem_of_getElem? hs, by simp; omega⟩
  unfold thinB
  rw [this, Bool.and_false]
theorem thin_yes {l : List ByteArray} (h9 : l.length ≤ 9) (h : ∀ j s, j < l.length → l[j]? = some s → s.size ≤ 9) : thinB l = true := by
  unfold thinB
  rw [decide_eq_true h9, Bool.true_and, List.all_eq_true]
  intro s hs
  obtain ⟨j, hj⟩ := List.mem_iff_getElem?.1 hs
  exact decide_eq_true (h j s (List.getElem?_eq_some_iff.1 hj).1 hj)
theorem thin_long {l : List ByteArray} (h9 : 9 < l.length) : thinB l = false := by
  unfold thinB
  rw [decide_eq_false (by omega), Bool.false_and]
end Go.Proofs.YtonekgefegfapaaGreat

namespace Go.Proofs.YtonekgefegfapaaGreat
open Go.RowKit

/-- A part of a text, as a list. -/
def partL (f m : Nat) (t : List Int) : List Int := (t.drop f).take m
theorem partL_at (f m : Nat) (t : List Int) (i : Nat) : (partL f m t)[i]? = if i < m then t[f + i]? else none := by
  unfold partL
  rw [List.getElem?_take, List.getElem?_drop]
theorem partX_at {f m : Nat} {t : List Int} {i : Nat} : partX t f m i = ((partL f m t)[i]?).getD (-1) := by
  rw [partL_at]
  unfold partX
  by_cases h : i < m ∧ f + i < t.length
  · rw [if_pos h, if_pos h.1, List.getD_eq_getElem?_getD, List.getElem?_eq_getElem h.2]
    rfl
  · rw [if_neg h]
    by_cases h1 : i < m
    · rw [if_pos h1, List.getElem?_eq_none (by omega)]
      rfl
    · rw [if_neg h1]
      rfl
theorem partL_in {f m : Nat} {t : List Int} {x : Int} (h : x ∈ partL f m t) : x ∈ t := List.mem_of_mem_drop (List.mem_of_mem_take h)
theorem partX_same {f m : Nat} {t u : List Int} (hm : m ≤ 5) (ht : ∀ x ∈ t, 0 ≤ x) (hu : ∀ x ∈ u, 0 ≤ x) : partP f m t = partP f m u ↔ partL f m t = partL f m u := by
  constructor
  · intro h
    have h5 : ∀ i, i < 5 → partX t f m i = partX u f m i := fun i hi => by
      unfold partP at h
      injection h with h0 h1 h2 h3 h4
      rcases i with _ | _ | _ | _ | _ | i
      · exact h0
      · exact h1
      · exact h2
      · exact h3
      · exact h4
      · omega
    apply List.ext_getElem?
    intro i
    by_cases hi : i < m
    · have h := h5 i (by omega)
      rw [partX_at, partX_at] at h
      cases h1 : (partL f m t)[i]? with
      | none =>
        cases h2 : (partL f m u)[i]? with
        | none => rfl
        | some y =>
          rw [h1, h2] at h
          have := hu y (partL_in (List.mem_of_getElem? h2))
          simp only [Option.getD_none, Option.getD_some] at h
          omega
      | some x =>
        have hx := ht x (partL_in (List.mem_of_getElem? h1))
        cases h2 : (partL f m u)[i]? with
        | none =>
          rw [h1, h2] at h
          simp only [Option.getD_none, Option.getD_some] at h
          omega
        | some y =>
          rw [h1, h2] at h
          simp only [Option.getD_some] at h
          rw [h]
    · rw [partL_at, partL_at, if_neg hi, if_neg hi]
  · intro h
    have e : partX t f m = partX u f m := by
      funext i
      rw [partX_at, partX_at, h]
    unfold partP
    rw [e]
theorem nodup_map {α β γ : Type} {f : α → β} {g : α → γ} : ∀ {l : List α}, (∀ x ∈ l, ∀ y ∈ l, f x = f y ↔ g x = g y) → ((l.map f).Nodup ↔ (l.map g).Nodup)
  | [], _ => by simp
  | x :: l, h => by
    rw [List.map_cons, List.map_cons, List.nodup_cons, List.nodup_cons, nodup_map fun y hy z hz => h y (List.mem_cons_of_mem _ hy) z (List.mem_cons_of_mem _ hz)]
    have : f x ∈ l.map f ↔ g x ∈ l.map g := by
      rw [List.mem_map, List.mem_map]
      constructor
      · rintro ⟨y, hy, e⟩
        exact ⟨y, hy, (h y (List.mem_cons_of_mem _ hy) x (List.mem_cons_self ..)).1 e⟩
      · rintro ⟨y, hy, e⟩
        exact ⟨y, hy, (h y (List.mem_cons_of_mem _ hy) x (List.mem_cons_self ..)).2 e⟩
    rw [this]
/-- A part tells texts apart, by its lists. -/
def decL (ts : List (List Int)) (f m : Nat) : Bool := decide (ts.map (partL f m)).Nodup
theorem decL_same {ts : List (List Int)} {f m : Nat} (hm : m ≤ 5) (h : ∀ t ∈ ts, ∀ x ∈ t, 0 ≤ x) : decL ts f m = decB ts f m := by
  unfold decL decB
  rw [decide_eq_decide]
  exact (nodup_map fun t ht u hu => partX_same hm (h t ht) (h u hu)).symm
/-- What a look at each pair of texts says. -/
def Apart (ts : List (List Int)) (f m n : Nat) : Prop := ∀ i j t u, i < j → j < n → ts[i]? = some t → ts[j]? = some u → ¬ partL f m t = partL f m u
theorem apart_none (ts : List (List Int)) (f m : Nat) : Apart ts f m 0 := fun _ _ _ _ _ h => absurd h (Nat.not_lt_zero _)
theorem apart_step {ts : List (List Int)} {f m n : Nat} {t : List Int} (h : Apart ts f m n) (ht : ts[n]? = some t) (hn : ∀ i u, i < n → ts[i]? = some u → ¬ partL f m u = partL f m t) : Apart ts f m (n + 1) := by
  intro i j a b hij hj ha hb
  rcases Nat.lt_or_ge j n with h1 | h1
  · exact h i j a b hij h1 ha hb
  · obtain rfl : j = n := by omega
    rw [ht] at hb
    obtain rfl := Option.some.inj hb
    exact hn i a hij ha
theorem apart_all {ts : List (List Int)} {f m : Nat} : decL ts f m = true ↔ Apart ts f m ts.length := by
  unfold decL
  rw [decide_eq_true_eq, nodup_iff_at]
  constructor
  · intro h i j t u hij _ ht hu e
    exact h i j (partL f m t) hij (by rw [List.getElem?_map, ht]; rfl) (by rw [List.getElem?_map, hu, e]; rfl)
  · intro h i j x hij hi hj
    rw [List.getElem?_map, Option.map_eq_some_iff] at hi hj
    obtain ⟨t, ht, rfl⟩ := hi
    obtain ⟨u, hu, e⟩ := hj
    exact h i j t u hij (List.getElem?_eq_some_iff.1 hu).1 ht hu e.symm
theorem decL_pair {ts : List (List Int)} {f m i j : Nat} {t u : List Int} (hij : i < j) (ht : ts[i]? = some t) (hu : ts[j]? = some u) (e : partL f m t = partL f m u) : decL ts f m = false := by
  cases h : decL ts f m with
  | false => rfl
  | true => exact absurd e (apart_all.1 h i j t u hij (List.getElem?_eq_some_iff.1 hu).1 ht hu)
/-- A part that begins behind all texts decides only if each part of no letters does. -/
theorem dec_late {ts : List (List Int)} {m : Nat} (h5 : ∀ t ∈ ts, t.length ≤ 5) (h : decL ts 5 m = true) (f m' : Nat) : decL ts f m' = true := by
  rcases ts with _ | ⟨t, _ | ⟨u, ts⟩⟩
  · rfl
  · simp [decL]
  · have := decL_pair (ts := t :: u :: ts) (f := 5) (m := m) (i := 0) (j := 1) (t := t) (u := u) (by omega) rfl rfl (by
      unfold partL
      rw [List.drop_eq_nil_of_le (h5 t (by simp)), List.drop_eq_nil_of_le (h5 u (by simp))])
    rw [h] at this
    cases this
end Go.Proofs.YtonekgefegfapaaGreat

namespace Go.Proofs.YtonekgefegfapaaGreat
open Go.RowKit

def shortB (ps : List (Value × List Int)) : Bool := decide (ps.length ≤ 70) && ps.all fun p => decide (p.2.length ≤ 9)
theorem short_wide {ps : List (Value × List Int)} {k : Nat} {x : Value × List Int} (hx : ps[k]? = some x) (h : 9 < x.2.length) : shortB ps = false := by
  have : (ps.all fun p => decide (p.2.length ≤ 9)) = false := by
    rw [List.all_eq_false]
    exact ⟨x, List.mem_of_getElem? hx, by simp; omega⟩
  unfold shortB
  rw [this, Bool.and_false]
theorem short_long {ps : List (Value × List Int)} (h : 70 < ps.length) : shortB ps = false := by
  unfold shortB
  rw [decide_eq_false (by omega), Bool.false_and]
theorem short_yes {ps : List (Value × List Int)} (h : ps.length ≤ 70) (hs : ∀ j x, j < ps.length → ps[j]? = some x → x.2.length ≤ 9) : shortB ps = true := by
  unfold shortB
  rw [decide_eq_true h, Bool.true_and, List.all_eq_true]
  intro x hx
  obtain ⟨j, hj⟩ := List.mem_iff_getElem?.1 hx
  exact decide_eq_true (hs j x (List.getElem?_eq_some_iff.1 hj).1 hj)
theorem shortB_ok {ps : List (Value × List Int)} (h : shortB ps = true) : ps.length ≤ 70 ∧ ∀ p ∈ ps, p.2.length ≤ 9 := by
  unfold shortB at h
  rw [Bool.and_eq_true] at h
  exact ⟨of_decide_eq_true h.1, fun p hp => of_decide_eq_true (List.all_eq_true.1 h.2 p hp)⟩
set_option maxRecDepth 100000 in
set_option maxHeartbeats 1500000 in
theorem short_any (v : Value) (ps : List (Value × List Int)) (w : World) (ht : TextsAny w v ps) : Calls Tryz.prog 39 #[v] w fun e w' => e = .returned (.bool (shortB ps)) ∧ Below w.heap.size w w' := by
  obtain ⟨A, cap, hv, hca, hcm⟩ := ht.1.form
  subst hv
  have hla : ps.length ≤ 9223372036854775807 := Nat.le_trans hca hcm
  have HT := Lib.hid ht
  clear ht hca hcm
  go_enter Tryz.func39, Tryz.ntmps39
  go_wp2_with fail
  go_loopw [3] (fun i wr => ∃ k : Nat, k ≤ ps.length ∧ k ≤ 71 ∧ i = iv k ∧ Hid (∀ j x, j < k → ps[j]? = some x → x.2.length ≤ 9) ∧ Below w.heap.size w wr) (fun i _ => ps.length - (intOf i).toNat)
  case atStart => exact ⟨0, by omega, by omega, rfl, Lib.hid (fun j _ h => absurd h (Nat.not_lt_zero _)), Below.refl _ _⟩
  case round =>
    obtain ⟨k, hk, hk71, rfl, HS, hB⟩ := hrel
    by_cases hlt : k < ps.length
    · have hlt' : (k : Int) < (ps.length : Int) := by omega
      by_cases h71 : k < 71
      · have h71' : (k : Int) < 71 := by omega
        have k0 : (0 : Int) ≤ (k : Int) := by omega
        obtain ⟨x, hx⟩ : ∃ x, ps[k]? = some x := ⟨_, List.getElem?_eq_getElem hlt⟩
        obtain ⟨b, off, rfl, hb, q0, r0⟩ := (HT.out.kept hB).at hx
        obtain ⟨xA, xc, hxv, -, -⟩ := r0.form
        rw [hxv] at q0
        have Hx := Lib.hid hx
        clear hx r0 hxv
        by_cases h9 : 9 < x.2.length
        · have h9' : (9 : Int) < (x.2.length : Int) := by omega
          have Hr := Lib.hid (short_wide Hx.out h9)
          go_wp2_with fail
          go_ret
          exact ⟨ret_bool Hr.out.symm, hB⟩
        · have h9' : ¬ (9 : Int) < (x.2.length : Int) := by omega
          have HN : Hid (∀ j x, j < k + 1 → ps[j]? = some x → x.2.length ≤ 9) := Lib.hid fun j y hj hy => by
            rcases Nat.lt_or_ge j k with h | h
            · exact HS.out j y h hy
            · obtain rfl : j = k := by omega
              rw [Hx.out] at hy
              obtain rfl := Option.some.inj hy
              omega
          go_wp2_with fail
          go_roundw
          case rel => exact ⟨k + 1, by omega, by omega, by go_num, HN, hB⟩
          case measure => simp [intOf]; omega
      · have h71' : ¬ (k : Int) < 71 := by omega
        have hle : ¬ (ps.length : Int) ≤ 70 := by omega
        have Hr := Lib.hid (short_long (ps := ps) (by omega))
        go_wp2_with fail
        go_ret
        exact ⟨ret_bool Hr.out.symm, hB⟩
    · have hlt' : ¬ (k : Int) < (ps.length : Int) := by omega
      obtain rfl : k = ps.length := by omega
      by_cases h9 : ps.length ≤ 70
      · have hle : (ps.length : Int) ≤ 70 := by omega
        have Hr := Lib.hid (short_yes h9 HS.out)
        go_wp2_with fail
        go_ret
        exact ⟨ret_bool Hr.out.symm, hB⟩
      · have hle : ¬ (ps.length : Int) ≤ 70 := by omega
        have Hr := Lib.hid (short_long (ps := ps) (by omega))
        go_wp2_with fail
        go_ret
        exact ⟨ret_bool Hr.out.symm, hB⟩
theorem texts_info : (Tryz.prog.info? 25).map (fun i => (i.zero, i.size, i.bytes)) = some (some (.slice none 0 0), 1, 24) := by kernel_rfl
/-- Lists of the call's own. -/
def OwnTexts (B : Nat) (w : World) (v : Value) (ts : List (List Int)) : Prop := ∃ vs : List Value, w.ownsRow B 25 1 v ts.length vs ∧ ∀ (i : Nat) (u : Value) (t : List Int), vs[i]? = some u → ts[i]? = some t → w.ownsRow B 3 1 u t.length (t.map fun x => iv x)
theorem OwnTexts.kept {B : Nat} {w w' : World} {v : Value} {ts : List (List Int)} (h : OwnTexts B w v ts) (hb : Below w.heap.size w w') : OwnTexts B w' v ts := by
  obtain ⟨vs, h1, h3⟩ := h
  exact ⟨vs, own_below h1 hb, fun i u t hu ht => own_below (h3 i u t hu ht) hb⟩
/-- Lists of one's own read as lists that came in. -/
theorem OwnTexts.any {B : Nat} {w : World} {v : Value} {ts : List (List Int)} (h : OwnTexts B w v ts) (hn : ts.length ≤ 1000) (hs : ∀ t ∈ ts, t.length ≤ 1000) : ∃ qs : List (Value × List Int), TextsAny w v qs ∧ qs.map (·.2) = ts := by
  obtain ⟨vs, h1, h3⟩ := h
  have h2 : vs.length = ts.length := by have := h1.1; omega
  have e1 : (vs.zip ts).map (·.1) = vs := List.map_fst_zip (by omega)
  have e2 : (vs.zip ts).map (·.2) = ts := List.map_snd_zip (by omega)
  have hf : (vs.zip ts).flatMap pc = vs := by
    have : (vs.zip ts).flatMap pc = (vs.zip ts).map (·.1) := by
      induction vs.zip ts with
      | nil => rfl
      | cons x l ih => rw [List.flatMap_cons, ih]; rfl
    rw [this, e1]
  have hl : (vs.zip ts).length = ts.length := by rw [List.length_zip]; omega
  refine ⟨vs.zip ts, ⟨rows_any (rows_of_own (cells := pc) (by rw [hf]; exact h1) hl.symm (fun _ => rfl) (by omega)), fun p hp => ?_⟩, e2⟩
  obtain ⟨i, hi⟩ := List.mem_iff_getElem?.1 hp
  have hz := List.getElem?_zip_eq_some.1 hi
  exact rows_any (text_rows (h3 i p.1 p.2 hz.1 hz.2) (hs _ (List.mem_of_getElem? hz.2)))
/-- One more list of one's own. -/
theorem OwnTexts.app {B : Nat} {w1 wt w3 : World} {vF v' u : Value} {us : List Value} {fs : List (List Int)} {t : List Int} (oF : w1.ownsRow B 25 1 vF fs.length us)
    (eF : ∀ (i : Nat) (v : Value) (t : List Int), us[i]? = some v → fs[i]? = some t → w1.ownsRow B 3 1 v t.length (t.map fun x => iv x)) (oC : w1.ownsRow B 3 1 u t.length (t.map fun x => iv x)) (hwt : Below w1.heap.size w1 wt) (hg : wt.grownBy w3 vF.ownBlock)
    (oV : w3.ownsRow B 25 1 v' (fs.length + 1) (us ++ [u])) : OwnTexts B w3 v' (fs ++ [t]) := by
  have hlu : us.length = fs.length := by have := oF.1; omega
  refine ⟨us ++ [u], by rw [List.length_append]; exact oV, fun i y t' hy ht => ?_⟩
  by_cases hi : i < fs.length
  · rw [List.getElem?_append_left (by omega)] at hy ht
    have o1 := own_below (eF i y t' hy ht) hwt
    exact o1.kept hg (own_apart o1 (own_below oF hwt) (by decide))
  · rw [List.getElem?_append_right (by omega)] at hy ht
    have hi0 : i - fs.length = 0 := by
      have := (List.getElem?_eq_some_iff.1 ht).1
      simp at this
      omega
    rw [hlu, hi0] at hy
    rw [hi0] at ht
    obtain rfl : u = y := by simpa using hy
    obtain rfl : t = t' := by simpa using ht
    have o1 := own_below oC hwt
    exact o1.kept hg (own_apart o1 (own_below oF hwt) (by decide))
set_option maxRecDepth 100000 in
set_option maxHeartbeats 3000000 in
theorem rows_walk (v : Value) (ps : List (Value × List Int)) (w : World) (ht : TextsAny w v ps) (hn : ps.length ≤ 1000) (hs : ∀ p ∈ ps, p.2.length ≤ 1000) : Calls Tryz.prog 41 #[v] w fun e w' => ∃ u, e = .returned u ∧ OwnTexts w.heap.size w' u (ps.map (·.2)) ∧ Below w.heap.size w w' := by
  obtain ⟨A, cap, hv, -, -⟩ := ht.1.form
  subst hv
  have HT := Lib.hid ht
  have HSs := Lib.hid hs
  clear ht hs
  obtain ⟨i0, hi0, hz0, hz1, hz2⟩ := info_parts texts_info
  go_enter Tryz.func41, Tryz.ntmps41
  go_wp2_with fail
  go_loopw [3, 4] (fun o i wr => ∃ k : Nat, k ≤ ps.length ∧ i = iv k ∧ Hid (OwnTexts w.heap.size wr o ((ps.take k).map (·.2))) ∧ Below w.heap.size w wr) (fun _ i _ => ps.length - (intOf i).toNat)
  case atStart => exact ⟨0, by omega, rfl, Lib.hid ⟨[], ⟨by simp, .inl ⟨rfl, by simp⟩⟩, fun i u t hu => by simp at hu⟩, Below.refl _ _⟩
  case round =>
    obtain ⟨k, hk, rfl, HO, hB⟩ := hrel
    by_cases hlt : k < ps.length
    · have hlt' : (k : Int) < (ps.length : Int) := by omega
      have k0 : (0 : Int) ≤ (k : Int) := by omega
      obtain ⟨x, hx⟩ : ∃ x, ps[k]? = some x := ⟨_, List.getElem?_eq_getElem hlt⟩
      obtain ⟨b, off, rfl, hb, q0, r0⟩ := (HT.out.kept hB).at hx
      have R0 := Lib.hid (r0.rows (HSs.out x (List.mem_of_getElem? hx)))
      have Hx := Lib.hid (show (ps.take (k + 1)).map (·.2) = (ps.take k).map (·.2) ++ [x.2] by rw [List.take_add_one, hx]; simp)
      have htk : ((ps.take k).map (·.2)).length = k := by rw [List.length_map, List.length_take]; omega
      clear hx r0
      go_wp2_with fail
      refine (list_own x.1 x.2 _ R0.out).mono ?_
      rintro e w1 ⟨u, rfl, hu, hb1⟩
      have hB1 := up_later hB hb1
      have hz1w := hB1.size
      have hu2 := own_mono hu (show w.heap.size ≤ _ from hB.size)
      obtain ⟨vs, ho, hvr⟩ := HO.out
      rw [htk] at ho
      have HO1 := Lib.hid (own_below ho hb1)
      have HU := Lib.hid hu2
      have HV := Lib.hid (fun i u t hu ht => own_below (hvr i u t hu ht) hb1)
      obtain ⟨A3, m3, p3, hform⟩ := own_form ho
      subst hform
      obtain ⟨A4, m4, p4, hform⟩ := own_form hu
      subst hform
      clear hb1 hu ho hvr hu2
      go_wp2_with (at_builtin; refine wpList_append_own_at _ rfl (.tmp 11) (.tmp 17) 50 rfl w.heap.size 25 i0 _ 1 24 Tryz.underlying50 hi0 hz0 hz1 hz2 rfl (by decide) _ _ _ rfl (own_below HO1.out (up_alloc up0 _)) ⟨w1.heap.size, 0, none⟩ 1 1 [.slice A4 m4 p4] rfl rfl (box_newsM (Box.new rfl)) (by simp [Value.oneCell']) (by unfold maxLen; omega) (by omega) (by simp; omega) ?_; intro v' w3 hown' hgrow _ _)
      have hO' := own_below HO1.out (w' := w1.alloc (.cells #[.slice A4 m4 p4] 25)) (up_alloc up0 _)
      go_roundw
      case rel =>
        refine ⟨k + 1, by omega, by go_num, Lib.hid ?_, (up_alloc hB1 _).grown hgrow (by simp; omega) (fun b' hb' => (hO'.lt b' hb').1)⟩
        rw [Hx.out]
        exact OwnTexts.app (w1 := w1) (by rw [htk]; exact HO1.out) HV.out HU.out (up_alloc up0 _) hgrow (by rw [htk]; exact hown')
      case measure => simp [intOf]; omega
    · have hlt' : ¬ (k : Int) < (ps.length : Int) := by omega
      have HO2 : Hid (OwnTexts w.heap.size wr u3 (ps.map (·.2))) := Lib.hid (by have h := HO.out; rwa [List.take_of_length_le (by omega)] at h)
      go_wp2_with fail
      go_ret
      exact ⟨_, rfl, HO2.out, hB⟩
end Go.Proofs.YtonekgefegfapaaGreat

namespace Go.Proofs.YtonekgefegfapaaGreat
open Go.RowKit

theorem partL_succ {f k : Nat} {t : List Int} {x : Int} (h : t[f + k]? = some x) : (partL f (k + 1) t).map iv = (partL f k t).map iv ++ [iv x] := by
  unfold partL
  rw [List.take_add_one, List.getElem?_drop, h]
  simp
theorem partL_len {f k : Nat} {t : List Int} (h : k = 0 ∨ f + k ≤ t.length) : (partL f k t).length = k := by
  unfold partL
  rw [List.length_take, List.length_drop]
  omega
theorem partL_end {f k m : Nat} {t : List Int} (hk : k ≤ m) (h : k = m ∨ t.length ≤ f + k) : partL f k t = partL f m t := by
  rcases h with rfl | h
  · rfl
  · unfold partL
    rw [List.take_of_length_le (by rw [List.length_drop]; omega), List.take_of_length_le (by rw [List.length_drop]; omega)]
set_option maxRecDepth 100000 in
set_option maxHeartbeats 1500000 in
theorem Part_any (v : Value) (t : List Int) (f m : Nat) (w : World) (ht : RowsAt w v 1 ic t) (hf : f ≤ 5) (hm : m ≤ 5) : Calls Tryz.prog 51 #[v, iv f, iv m] w fun e w' => ∃ u, e = .returned u ∧ RowsAny w' u 1 ic (partL f m t) ∧ Below w.heap.size w w' := by
  obtain ⟨hlen, A, cap, hv, -, -⟩ := ht.form
  subst hv
  have HT := Lib.hid ht
  clear ht
  obtain ⟨i0, hi0, hz0, hz1, hz2⟩ := info_parts int_info
  have und25 := Tryz.underlying25
  have hW : IntKind.i64.wrap ((f : Int) + (m : Int)) = (f : Int) + (m : Int) := wrapK_in _ 3000 (by omega) (by omega)
  go_enter Tryz.func51, Tryz.ntmps51
  go_wp2_with fail
  go_loopw [7, 8] (fun o i wr => ∃ k : Nat, k ≤ m ∧ (k = 0 ∨ f + k ≤ t.length) ∧ i = iv ((f + k : Nat) : Int) ∧ Hid (wr.ownsRow w.heap.size 3 1 o k ((partL f k t).map iv)) ∧ Below w.heap.size w wr) (fun _ i _ => f + m - (intOf i).toNat)
  case atStart => exact ⟨0, by omega, .inl rfl, rfl, Lib.hid ⟨by simp [partL], .inl ⟨rfl, by simp⟩⟩, Below.refl _ _⟩
  case round =>
    obtain ⟨k, hk, hkl, rfl, HO, hB⟩ := hrel
    by_cases hkm : k < m
    · have hkm' : ((f + k : Nat) : Int) < (f : Int) + (m : Int) := by omega
      by_cases hlt : f + k < t.length
      · have hlt' : ((f + k : Nat) : Int) < (t.length : Int) := by omega
        obtain ⟨x, hx⟩ : ∃ x, t[f + k]? = some x := ⟨_, List.getElem?_eq_getElem hlt⟩
        obtain ⟨b, off, rfl, hb, hc⟩ := (HT.out.kept hB).at rfl hx
        have q0 : wr.cell? ⟨b, off + (f + k), none⟩ = some (iv x) := by simpa using hc 0 _ rfl
        have Hx := Lib.hid (partL_succ hx)
        have i0' : (0 : Int) ≤ ((f + k : Nat) : Int) := by omega
        have hN : (((f + k : Nat) : Int)).toNat = f + k := by omega
        have hO' := own_below HO.out (w' := wr.alloc (.cells #[iv x] 3)) (up_alloc up0 _)
        have hzw := hB.size
        obtain ⟨A3, m3, p3, hform⟩ := own_form HO.out
        subst hform
        clear hx hc
        go_wp2_with (at_builtin; refine wpList_append_own_at _ rfl (.tmp 23) (.tmp 28) 25 rfl w.heap.size 3 i0 _ 1 8 und25 hi0 hz0 hz1 hz2 rfl (by decide) _ _ _ rfl (own_below HO.out (up_alloc up0 _)) ⟨wr.heap.size, 0, none⟩ 1 1 [iv x] rfl rfl (box_newsM (Box.new rfl)) (by simp [Value.oneCell']) (by unfold maxLen; omega) (by omega) (by simp; omega) ?_; intro v' w3 hown' hgrow _ _)
        go_roundw
        case rel => exact ⟨k + 1, by omega, .inr (by omega), by go_num, Lib.hid (by rw [Hx.out]; exact hown'), (up_alloc hB _).grown hgrow (by simp; omega) (fun b' hb' => (hO'.lt b' hb').1)⟩
        case measure => simp [intOf]; omega
      · have hlt' : ¬ ((f + k : Nat) : Int) < (t.length : Int) := by omega
        have HO2 : Hid (RowsAny wr u7 1 ic (partL f m t)) := Lib.hid (by
          have h := HO.out
          rw [partL_end (by omega) (.inr (by omega))] at h
          refine rows_any (text_rows (B := w.heap.size) ?_ ?_)
          · have hl : (partL f m t).length = k := by rw [← partL_end (f := f) (k := k) (m := m) (t := t) (by omega) (.inr (by omega))]; exact partL_len hkl
            rw [hl]
            exact h
          · unfold partL
            rw [List.length_take]
            omega)
        go_wp2_with fail
        go_ret
        exact ⟨_, rfl, HO2.out, hB⟩
    · have hkm' : ¬ ((f + k : Nat) : Int) < (f : Int) + (m : Int) := by omega
      obtain rfl : k = m := by omega
      have HO2 : Hid (RowsAny wr u7 1 ic (partL f k t)) := Lib.hid (by
        have h := HO.out
        refine rows_any (text_rows (B := w.heap.size) ?_ ?_)
        · rw [partL_len hkl]
          exact h
        · unfold partL
          rw [List.length_take]
          omega)
      go_wp2_with fail
      go_ret
      exact ⟨_, rfl, HO2.out, hB⟩
def Fact.rowP (l : List Int) : Fact := ⟨fun v w => RowsAny w v 1 ic l, fun _ _ _ h h' => h.kept h', false, fun _ _ h => by cases h⟩
/-- Texts that are short enough. -/
def TextsR (w : World) (v : Value) (ps : List (Value × List Int)) : Prop := TextsAny w v ps ∧ ps.length ≤ 1000 ∧ ∀ p ∈ ps, p.2.length ≤ 1000
theorem TextsR.kept {w w' : World} {v : Value} {ps : List (Value × List Int)} (h : TextsR w v ps) (hb : Below w.heap.size w w') : TextsR w' v ps := ⟨h.1.kept hb, h.2⟩
theorem TextsR.at {w : World} {A : Option Addr} {n cap k : Nat} {ps : List (Value × List Int)} {x : Value × List Int} (h : TextsR w (.slice A n cap) ps) (hx : ps[k]? = some x) :
    ∃ b off, A = some ⟨b, off, none⟩ ∧ b < w.heap.size ∧ w.cell? ⟨b, off + k, none⟩ = some x.1 ∧ RowsAt w x.1 1 ic x.2 := by
  obtain ⟨b, off, e, hb, hc, hr⟩ := h.1.at hx
  exact ⟨b, off, e, hb, hc, hr.rows (h.2.2 x (List.mem_of_getElem? hx))⟩
set_option maxRecDepth 100000 in
set_option maxHeartbeats 3000000 in
theorem Decides_any (v : Value) (ps : List (Value × List Int)) (f m : Nat) (w : World) (ht : TextsR w v ps) (hf : f ≤ 5) (hm : m ≤ 5) : Calls Tryz.prog 50 #[v, iv f, iv m] w fun e w' => e = .returned (.bool (decL (ps.map (·.2)) f m)) ∧ Below w.heap.size w w' := by
  obtain ⟨A, cap, hv, -, -⟩ := ht.1.1.form
  subst hv
  have hla := ht.2.1
  have HT := Lib.hid ht
  clear ht
  go_enter Tryz.func50, Tryz.ntmps50
  go_wp2_with fail
  go_loopw [7] (fun i wr => ∃ k : Nat, k ≤ ps.length ∧ i = iv k ∧ Hid (Apart (ps.map (·.2)) f m k) ∧ Below w.heap.size w wr) (fun i _ => ps.length - (intOf i).toNat)
  case atStart => exact ⟨0, by omega, rfl, Lib.hid (apart_none _ _ _), Below.refl _ _⟩
  case round =>
    obtain ⟨k, hk, rfl, HA, hB⟩ := hrel
    by_cases hlt : k < ps.length
    · have hlt' : (k : Int) < (ps.length : Int) := by omega
      obtain ⟨⟨xv, x⟩, hx⟩ : ∃ x, ps[k]? = some x := ⟨_, List.getElem?_eq_getElem hlt⟩
      have Hx := Lib.hid hx
      clear hx
      go_wp2_with fail
      go_loopw [8] (fun i wr => ∃ j : Nat, j ≤ k ∧ i = iv j ∧ Hid (∀ i u, i < j → (ps.map (·.2))[i]? = some u → ¬ partL f m u = partL f m x) ∧ Below w.heap.size w wr) (fun i _ => k - (intOf i).toNat)
      case atStart => exact ⟨0, by omega, rfl, Lib.hid (fun i _ h => absurd h (Nat.not_lt_zero _)), hB⟩
      case round =>
        obtain ⟨j, hj, rfl, HN, hB1⟩ := hrel
        by_cases hjk : j < k
        · have hjk' : (j : Int) < (k : Int) := by omega
          obtain ⟨⟨yv, y⟩, hy⟩ : ∃ x, ps[j]? = some x := ⟨_, List.getElem?_eq_getElem (by omega)⟩
          obtain ⟨b, off, rfl, hb, q0, r0⟩ := (HT.out.kept hB1).at Hx.out
          obtain ⟨b', off', e', hb', q1, r1⟩ := (HT.out.kept hB1).at hy
          injection e' with e'
          injection e' with e1 e2
          subst e1 e2
          have Hy := Lib.hid (show (ps.map (·.2))[j]? = some y by rw [List.getElem?_map, hy]; rfl)
          have Hx2 := Lib.hid (show (ps.map (·.2))[k]? = some x by rw [List.getElem?_map, Hx.out]; rfl)
          have R0 := Lib.hid r0
          have R1 := Lib.hid r1
          have k0 : (0 : Int) ≤ (k : Int) := by omega
          have j0 : (0 : Int) ≤ (j : Int) := by omega
          have jl : (j : Int) < (ps.length : Int) := by omega
          simp only at q0 q1
          have HB1 := Lib.hid hB1
          clear hy r0 r1 hB1 hB
          obtain ⟨D, hD⟩ : ∃ D, decide (partL f m x = partL f m y) = D := ⟨_, rfl⟩
          have HD := Lib.hid hD
          clear hD
          go_wp2_with fail
          apply wp_region_by 15 [(Fact.eq _), (Fact.eq _), (Fact.eq _), (Fact.eq _), (Fact.eq _), (Fact.eq _), (Fact.rowP (partL f m x)), (Fact.eq _), (Fact.eq _), (Fact.eq _), (Fact.eq _), (Fact.eq _), (Fact.eq _), (Fact.rowP (partL f m y)), (Fact.eq _)]
          case hm => kernel_rfl
          case hB => kernel_rfl
          case hA => (intro vs; simp only [List.take_succ_cons, List.take_zero, putAll, if_true, Act.put, List.setIfInBounds_toArray, List.set_cons_zero, List.set_cons_succ]; exact rfl)
          case hstep =>
            intro vs
            refine And.intro (fun w hw hd => ?_) ?_
            · refine ite_yes rfl ?_
              simp only [Gives]
              go_simp
              exact ⟨Below.refl _ _, rfl, fun h => by cases h⟩
            refine And.intro (fun w hw hd => ?_) ?_
            · refine ite_yes rfl ?_
              simp only [Gives]
              go_simp
              exact ⟨Below.refl _ _, rfl, fun h => by cases h⟩
            refine And.intro (fun w hw hd => ?_) ?_
            · have d0 := hd 0 (by decide) rfl
              change vs 0 = _ at d0
              have d1 := hd 1 (by decide) rfl
              change vs 1 = _ at d1
              refine ite_yes rfl ?_
              simp only [Gives]
              go_simp
              exact ⟨Below.refl _ _, rfl, fun h => by cases h⟩
            refine And.intro (fun w hw hd => ?_) ?_
            · have d2 := hd 2 (by decide) rfl
              change vs 2 = _ at d2
              refine ite_yes rfl ?_
              have p0 := (hw.cell (p := ⟨b, off + k, none⟩) hb).trans q0
              have p1 := (hw.cell (p := ⟨b, off + j, none⟩) hb).trans q1
              simp only [Gives]
              go_simp
              exact ⟨Below.refl _ _, rfl, fun h => by cases h⟩
            refine And.intro (fun w hw hd => ?_) ?_
            · refine ite_yes rfl ?_
              simp only [Gives]
              go_simp
              exact ⟨Below.refl _ _, rfl, fun h => by cases h⟩
            refine And.intro (fun w hw hd => ?_) ?_
            · refine ite_yes rfl ?_
              simp only [Gives]
              go_simp
              exact ⟨Below.refl _ _, rfl, fun h => by cases h⟩
            refine And.intro (fun w hw hd => ?_) ?_
            · have d3 := hd 3 (by decide) rfl
              change vs 3 = _ at d3
              have d4 := hd 4 (by decide) rfl
              change vs 4 = _ at d4
              have d5 := hd 5 (by decide) rfl
              change vs 5 = _ at d5
              refine ite_yes rfl ?_
              simp only [Gives]
              go_simp
              refine (Part_any xv x f m w (R0.out.kept hw) hf hm).mono ?_
              rintro e w7 ⟨u, rfl, hu, hb⟩
              exact ⟨_, rfl, hb, hu, fun h => by cases h⟩
            refine And.intro (fun w hw hd => ?_) ?_
            · refine ite_yes rfl ?_
              simp only [Gives]
              go_simp
              exact ⟨Below.refl _ _, rfl, fun h => by cases h⟩
            refine And.intro (fun w hw hd => ?_) ?_
            · refine ite_yes rfl ?_
              simp only [Gives]
              go_simp
              exact ⟨Below.refl _ _, rfl, fun h => by cases h⟩
            refine And.intro (fun w hw hd => ?_) ?_
            · have d7 := hd 7 (by decide) rfl
              change vs 7 = _ at d7
              have d8 := hd 8 (by decide) rfl
              change vs 8 = _ at d8
              refine ite_yes rfl ?_
              simp only [Gives]
              go_simp
              exact ⟨Below.refl _ _, rfl, fun h => by cases h⟩
            refine And.intro (fun w hw hd => ?_) ?_
            · have d9 := hd 9 (by decide) rfl
              change vs 9 = _ at d9
              refine ite_yes rfl ?_
              have p0 := (hw.cell (p := ⟨b, off + k, none⟩) hb).trans q0
              have p1 := (hw.cell (p := ⟨b, off + j, none⟩) hb).trans q1
              simp only [Gives]
              go_simp
              exact ⟨Below.refl _ _, rfl, fun h => by cases h⟩
            refine And.intro (fun w hw hd => ?_) ?_
            · refine ite_yes rfl ?_
              simp only [Gives]
              go_simp
              exact ⟨Below.refl _ _, rfl, fun h => by cases h⟩
            refine And.intro (fun w hw hd => ?_) ?_
            · refine ite_yes rfl ?_
              simp only [Gives]
              go_simp
              exact ⟨Below.refl _ _, rfl, fun h => by cases h⟩
            refine And.intro (fun w hw hd => ?_) ?_
            · have d10 := hd 10 (by decide) rfl
              change vs 10 = _ at d10
              have d11 := hd 11 (by decide) rfl
              change vs 11 = _ at d11
              have d12 := hd 12 (by decide) rfl
              change vs 12 = _ at d12
              refine ite_yes rfl ?_
              simp only [Gives]
              go_simp
              refine (Part_any yv y f m w (R1.out.kept hw) hf hm).mono ?_
              rintro e w7 ⟨u, rfl, hu, hb⟩
              exact ⟨_, rfl, hb, hu, fun h => by cases h⟩
            refine And.intro (fun w hw hd => ?_) ?_
            · have d6 := hd 6 (by decide) rfl
              have d13 := hd 13 (by decide) rfl
              refine ite_yes rfl ?_
              simp only [Gives]
              go_simp
              refine (Same_any _ _ (partL f m x) (partL f m y) w d6 d13).mono ?_
              rintro e w1 ⟨rfl, hb⟩
              exact ⟨_, rfl, hb, rfl, fun h => by cases h⟩
            exact trivial
          intro vs wt hw hd hne hlo
          have d0 := hd 0 (by decide)
          change vs 0 = _ at d0
          have d1 := hd 1 (by decide)
          change vs 1 = _ at d1
          have d2 := hd 2 (by decide)
          change vs 2 = _ at d2
          have d3 := hd 3 (by decide)
          change vs 3 = _ at d3
          have d4 := hd 4 (by decide)
          change vs 4 = _ at d4
          have d5 := hd 5 (by decide)
          change vs 5 = _ at d5
          have d6 := hd 6 (by decide)
          have d7 := hd 7 (by decide)
          change vs 7 = _ at d7
          have d8 := hd 8 (by decide)
          change vs 8 = _ at d8
          have d9 := hd 9 (by decide)
          change vs 9 = _ at d9
          have d10 := hd 10 (by decide)
          change vs 10 = _ at d10
          have d11 := hd 11 (by decide)
          change vs 11 = _ at d11
          have d12 := hd 12 (by decide)
          change vs 12 = _ at d12
          have d13 := hd 13 (by decide)
          have d14 := hd 14 (by decide)
          change vs 14 = _ at d14
          simp only [d0, d1, d2, d3, d4, d5, d7, d8, d9, d10, d11, d12, d14, List.drop_succ_cons, List.drop_nil]
          clear hd hne hlo d0 d1 d2 d3 d4 d5 d7 d8 d9 d10 d11 d12 d14
          have hB2 := up_later HB1.out hw
          rw [HD.out]
          cases D with
          | true =>
            have Hr := Lib.hid (decL_pair hjk Hy.out Hx2.out (of_decide_eq_true HD.out).symm)
            clear HD
            go_wp2_with fail
            go_ret
            exact ⟨ret_bool Hr.out.symm, hB2⟩
          | false =>
            have HN2 : Hid (∀ i u, i < j + 1 → (ps.map (·.2))[i]? = some u → ¬ partL f m u = partL f m x) := Lib.hid (fun i u hi hu => by
              rcases Nat.lt_or_ge i j with h | h
              · exact HN.out i u h hu
              · obtain rfl : i = j := by omega
                rw [Hy.out] at hu
                obtain rfl := Option.some.inj hu
                exact fun e => of_decide_eq_false HD.out e.symm)
            clear HD
            go_wp2_with fail
            go_roundw
            case rel => exact ⟨j + 1, by omega, by go_num, HN2, hB2⟩
            case measure => simp [intOf]; omega
        · have hjk' : ¬ (j : Int) < (k : Int) := by omega
          obtain rfl : j = k := by omega
          have HA2 := Lib.hid (apart_step HA.out (show (ps.map (·.2))[j]? = some x by rw [List.getElem?_map, Hx.out]; rfl) HN.out)
          go_wp2_with fail
          go_roundw
          case rel => exact ⟨j + 1, by omega, by go_num, HA2, hB1⟩
          case measure => simp [intOf]; omega
    · have hlt' : ¬ (k : Int) < (ps.length : Int) := by omega
      have Hr := Lib.hid (show decL (ps.map (·.2)) f m = true from apart_all.2 (by rw [List.length_map, show ps.length = k by omega]; exact HA.out))
      go_wp2_with fail
      go_ret
      exact ⟨ret_bool Hr.out.symm, hB⟩
end Go.Proofs.YtonekgefegfapaaGreat

namespace Go.Proofs.YtonekgefegfapaaGreat
open Go.RowKit

theorem all_at {α : Type} {p : α → Bool} {l : List α} (h : ∀ j x, j < l.length → l[j]? = some x → p x = true) : l.all p = true := by
  rw [List.all_eq_true]
  intro x hx
  obtain ⟨j, hj⟩ := List.mem_iff_getElem?.1 hx
  exact h j x (List.getElem?_eq_some_iff.1 hj).1 hj
theorem all_no {α : Type} {p : α → Bool} {l : List α} {k : Nat} {x : α} (hx : l[k]? = some x) (h : p x = false) : l.all p = false := by
  rw [List.all_eq_false]
  exact ⟨x, List.mem_of_getElem? hx, by rw [h]; simp⟩
theorem more_at {α : Type} {p : α → Prop} {l : List α} {k : Nat} {x : α} (h : ∀ j y, j < k → l[j]? = some y → p y) (hx : l[k]? = some x) (hp : p x) : ∀ j y, j < k + 1 → l[j]? = some y → p y := fun j y hj hy => by
  rcases Nat.lt_or_ge j k with h1 | h1
  · exact h j y h1 hy
  · obtain rfl : j = k := by omega
    rw [hx] at hy
    obtain rfl := Option.some.inj hy
    exact hp
theorem spell_ge {ps : List (Value × List Int)} (h : ps.all spellB = true) : ∀ t ∈ ps.map (·.2), ∀ x ∈ t, 0 ≤ x := fun t ht x hx => by
  obtain ⟨p, hp, rfl⟩ := List.mem_map.1 ht
  have h1 := List.all_eq_true.1 h p hp
  unfold spellB at h1
  have h2 := List.all_eq_true.1 h1 x hx
  unfold letB at h2
  have : 0 ≤ x ∧ x < ((6 : Nat) : Int) := by simpa using h2
  exact this.1
set_option maxRecDepth 100000 in
set_option maxHeartbeats 3000000 in
theorem ListFault_any (v : Value) (ps : List (Value × List Int)) (w : World) (ht : TextsR w v ps) : Calls Tryz.prog 42 #[v] w fun e w' => e = .returned (iv (txtE ps)) ∧ Below w.heap.size w w' := by
  obtain ⟨A, cap, hv, -, -⟩ := ht.1.1.form
  subst hv
  have hla := ht.2.1
  have HT := Lib.hid ht
  clear ht
  by_cases h64 : 64 < ps.length
  · have h64' : (64 : Int) < (ps.length : Int) := by omega
    have Hr := Lib.hid (show txtE ps = 3 by unfold txtE; rw [if_pos (.inl h64)])
    go_enter Tryz.func42, Tryz.ntmps42
    go_wp2_with fail
    go_ret
    exact ⟨by rw [Hr.out]; rfl, up0⟩
  have h64' : ¬ (64 : Int) < (ps.length : Int) := by omega
  go_enter Tryz.func42, Tryz.ntmps42
  go_wp2_with fail
  go_loopw [3] (fun i wr => ∃ k : Nat, k ≤ ps.length ∧ i = iv k ∧ Hid (∀ j x, j < k → ps[j]? = some x → fitB5 x = true) ∧ Below w.heap.size w wr) (fun i _ => ps.length - (intOf i).toNat)
  case atStart => exact ⟨0, by omega, rfl, Lib.hid (fun j _ h => absurd h (Nat.not_lt_zero _)), Below.refl _ _⟩
  case round =>
    obtain ⟨k, hk, rfl, HF, hB⟩ := hrel
    by_cases hlt : k < ps.length
    · have hlt' : (k : Int) < (ps.length : Int) := by omega
      have k0 : (0 : Int) ≤ (k : Int) := by omega
      obtain ⟨⟨xv, x⟩, hx⟩ : ∃ x, ps[k]? = some x := ⟨_, List.getElem?_eq_getElem hlt⟩
      obtain ⟨b, off, rfl, hb, q0, r0⟩ := (HT.out.kept hB).at hx
      obtain ⟨-, xA, xc, hxv, -, -⟩ := r0.form
      simp only at hxv q0
      subst hxv
      have Hx := Lib.hid hx
      clear hx r0
      by_cases h5 : 5 < x.length
      · have h5' : (5 : Int) < (x.length : Int) := by omega
        have Hr := Lib.hid (show txtE ps = 3 by
          unfold txtE
          rw [if_pos (.inr (all_no Hx.out (by unfold fitB5; exact decide_eq_false (by simp only; omega))))])
        go_wp2_with fail
        go_ret
        exact ⟨by rw [Hr.out]; rfl, hB⟩
      · have h5' : ¬ (5 : Int) < (x.length : Int) := by omega
        have HN := Lib.hid (more_at HF.out Hx.out (by unfold fitB5; exact decide_eq_true (by simp only; omega)))
        go_wp2_with fail
        go_roundw
        case rel => exact ⟨k + 1, by omega, by go_num, HN, hB⟩
        case measure => simp [intOf]; omega
    · have hlt' : ¬ (k : Int) < (ps.length : Int) := by omega
      have HFit := Lib.hid (all_at (p := fitB5) (l := ps) (fun j x hj hx => HF.out j x (by omega) hx))
      have hn3 : Hid (¬ (64 < ps.length ∨ ps.all fitB5 = false)) := Lib.hid (by
        rw [HFit.out]
        simp
        omega)
      clear HF
      go_wp2_with fail
      go_loopw [4] (fun i wr => ∃ k : Nat, k ≤ ps.length ∧ i = iv k ∧ Hid (∀ j x, j < k → ps[j]? = some x → spellB x = true) ∧ Below w.heap.size w wr) (fun i _ => ps.length - (intOf i).toNat)
      case atStart => exact ⟨0, by omega, rfl, Lib.hid (fun j _ h => absurd h (Nat.not_lt_zero _)), hB⟩
      case round =>
        obtain ⟨n, hn, rfl, HS, hB1⟩ := hrel
        by_cases hlt2 : n < ps.length
        · have hlt2' : (n : Int) < (ps.length : Int) := by omega
          have n0 : (0 : Int) ≤ (n : Int) := by omega
          obtain ⟨⟨xv, x⟩, hx⟩ : ∃ x, ps[n]? = some x := ⟨_, List.getElem?_eq_getElem hlt2⟩
          obtain ⟨b, off, rfl, hb, q0, r0⟩ := (HT.out.kept hB1).at hx
          obtain ⟨-, xA, xc, hxv, -, -⟩ := r0.form
          simp only at hxv q0
          subst hxv
          have Hx := Lib.hid hx
          have HR := Lib.hid r0
          clear hx r0
          go_wp2_with fail
          have hx9 : x.length ≤ 1000 := HT.out.2.2 _ (List.mem_of_getElem? Hx.out)
          clear q0 hb HR
          go_loopw [5] (fun i wr => ∃ m : Nat, m ≤ x.length ∧ i = iv m ∧ Hid ((x.take m).all (letB 6) = true) ∧ Below w.heap.size w wr) (fun i _ => x.length - (intOf i).toNat)
          case atStart => exact ⟨0, by omega, rfl, Lib.hid rfl, hB1⟩
          case round =>
            obtain ⟨m, hm, rfl, HM, hB2⟩ := hrel
            obtain ⟨b2, off2, e2, hb2, q0, r0⟩ := (HT.out.kept hB2).at Hx.out
            injection e2 with e2
            injection e2 with e3 e4
            subst e3 e4
            simp only at q0
            have m0 : (0 : Int) ≤ (m : Int) := by omega
            by_cases hml : m < x.length
            · have hml' : (m : Int) < (x.length : Int) := by omega
              obtain ⟨y, hy⟩ : ∃ y, x[m]? = some y := ⟨_, List.getElem?_eq_getElem hml⟩
              obtain ⟨b3, off3, rfl, hb3, hc3⟩ := r0.at rfl hy
              have q1 : wr.cell? ⟨b3, off3 + m, none⟩ = some (iv y) := by simpa using hc3 0 _ rfl
              have Hy := Lib.hid hy
              clear hy r0 hc3
              cases hl : letB 6 y with
              | true =>
                have HI := Lib.hid (show (decide ((0 : Int) ≤ y) && decide (y ≤ 5)) = true by rw [← hl]; unfold letB; congr 1; rw [decide_eq_decide]; omega)
                have HN := Lib.hid (show (x.take (m + 1)).all (letB 6) = true by rw [all_take Hy.out, HM.out, hl]; rfl)
                clear hl
                go_wp2_with fail
                refine (In_b y 0 5 true _ HI.out).mono ?_
                rintro e w2 ⟨rfl, hb4⟩
                have hB3 := up_later hB2 hb4
                clear hb4
                go_wp2_with fail
                go_roundw
                case rel => exact ⟨m + 1, by omega, by go_num, HN, hB3⟩
                case measure => simp [intOf]; omega
              | false =>
                have HI := Lib.hid (show (decide ((0 : Int) ≤ y) && decide (y ≤ 5)) = false by rw [← hl]; unfold letB; congr 1; rw [decide_eq_decide]; omega)
                have hS : spellB (.slice (some ⟨b3, off3, none⟩) x.length xc, x) = false := by
                  unfold spellB
                  exact all_no Hy.out hl
                have Hr := Lib.hid (show txtE ps = 2 by unfold txtE; rw [if_neg hn3.out, if_pos (.inr (all_no Hx.out hS))])
                clear hl hS
                go_wp2_with fail
                refine (In_b y 0 5 false _ HI.out).mono ?_
                rintro e w2 ⟨rfl, hb4⟩
                go_wp2_with fail
                go_ret
                exact ⟨by rw [Hr.out]; rfl, up_later hB2 hb4⟩
            · have hml' : ¬ (m : Int) < (x.length : Int) := by omega
              have HN := Lib.hid (more_at HS.out Hx.out (show spellB _ = true by
                have h := HM.out
                rw [List.take_of_length_le (by omega)] at h
                exact h))
              go_wp2_with fail
              go_roundw
              case rel => exact ⟨n + 1, by omega, by go_num, HN, hB2⟩
              case measure => simp [intOf]; omega
        · have hlt2' : ¬ (n : Int) < (ps.length : Int) := by omega
          have HSp := Lib.hid (all_at (p := spellB) (l := ps) (fun j x hj hx => HS.out j x (by omega) hx))
          clear HS
          by_cases h0 : ps.length = 0
          · have h0' : ((ps.length : Int) == 0) = true := by rw [beq_iff_eq]; omega
            have Hr := Lib.hid (show txtE ps = 2 by unfold txtE; rw [if_neg hn3.out, if_pos (.inl h0)])
            clear h0
            go_wp2_with fail
            go_ret
            exact ⟨by rw [Hr.out]; rfl, hB1⟩
          · have h0' : ((ps.length : Int) == 0) = false := by rw [beq_eq_false_iff_ne]; omega
            have hn2 : Hid (¬ (ps.length = 0 ∨ ps.all spellB = false)) := Lib.hid (by
              rw [HSp.out]
              simp only [Bool.true_eq_false, or_false]
              exact h0)
            have Hd := Lib.hid (decL_same (ts := ps.map (·.2)) (f := 0) (m := 5) (by omega) (spell_ge HSp.out))
            go_wp2_with fail
            refine (Decides_any _ ps 0 5 _ (HT.out.kept hB1) (by omega) (by omega)).mono ?_
            rintro e w2 ⟨rfl, hb2⟩
            rw [Hd.out]
            cases hd : decB (ps.map (·.2)) 0 5 with
            | true =>
              have Hr := Lib.hid (show txtE ps = 0 by unfold txtE; rw [if_neg hn3.out, if_neg hn2.out, if_neg (by rw [hd]; simp)])
              clear hd
              go_wp2_with fail
              go_ret
              exact ⟨by rw [Hr.out]; rfl, up_later hB1 hb2⟩
            | false =>
              have Hr := Lib.hid (show txtE ps = 6 by unfold txtE; rw [if_neg hn3.out, if_neg hn2.out, if_pos hd])
              clear hd
              go_wp2_with fail
              go_ret
              exact ⟨by rw [Hr.out]; rfl, up_later hB1 hb2⟩
/-- What is asked of each part on the way to the shortest one. -/
theorem short_no {ts : List (List Int)} {f m : Nat} (h : IsShort ts f m) (h5 : ∀ t ∈ ts, t.length ≤ 5) (h0 : ∀ t ∈ ts, ∀ x ∈ t, 0 ≤ x) {j q : Nat} (hq : q ≤ m) (hj : j ≤ 5) (hjq : q < m ∨ j < f) : decL ts j q = false := by
  have hm := h.m5
  have hf := h.f5
  cases hd : decL ts j q with
  | false => rfl
  | true =>
    exfalso
    rcases hjq with h1 | h1
    · by_cases hj5 : j = 5
      · subst hj5
        have h2 := dec_late h5 hd 0 q
        rw [decL_same (by omega) h0, h.few q h1 0 (by omega)] at h2
        cases h2
      · rw [decL_same (by omega) h0, h.few q h1 j (by omega)] at hd
        cases hd
    · by_cases hqm : q < m
      · rw [decL_same (by omega) h0, h.few q hqm j (by omega)] at hd
        cases hd
      · obtain rfl : q = m := by omega
        rw [decL_same (by omega) h0, h.fst j h1] at hd
        cases hd
set_option maxRecDepth 100000 in
set_option maxHeartbeats 3000000 in
theorem RRepeat_any (v : Value) (ps : List (Value × List Int)) (f m : Nat) (w : World) (ht : TextsR w v ps) (hs : IsShort (ps.map (·.2)) f m) (h5 : ∀ t ∈ ps.map (·.2), t.length ≤ 5) (h0 : ∀ t ∈ ps.map (·.2), ∀ x ∈ t, 0 ≤ x) :
    Calls Tryz.prog 43 #[v] w fun e w' => e = .returned (.tuple #[iv f, iv m]) ∧ Below w.heap.size w w' := by
  have HT := Lib.hid ht
  have HN : Hid (∀ j q, q ≤ m → j ≤ 5 → (q < m ∨ j < f) → decL (ps.map (·.2)) j q = false) := Lib.hid fun j q hq hj h => short_no hs h5 h0 hq hj h
  have HY := Lib.hid (show decL (ps.map (·.2)) f m = true by rw [decL_same hs.m5 h0]; exact hs.yes)
  have hf := hs.f5
  have hm := hs.m5
  clear ht hs h5 h0
  go_enter Tryz.func43, Tryz.ntmps43
  go_wp2_with fail
  go_loopw [4] (fun i wr => ∃ q : Nat, q ≤ m ∧ i = iv q ∧ Below w.heap.size w wr) (fun i _ => 6 - (intOf i).toNat)
  case atStart => exact ⟨0, by omega, rfl, Below.refl _ _⟩
  case round =>
    obtain ⟨q, hq, rfl, hB⟩ := hrel
    have hq5 : (q : Int) ≤ 5 := by omega
    go_wp2_with fail
    go_loopw [5] (fun i wr => ∃ j : Nat, (q = m → j ≤ f) ∧ j ≤ 6 ∧ i = iv j ∧ Below w.heap.size w wr) (fun i _ => 7 - (intOf i).toNat)
    case atStart => exact ⟨0, fun _ => by omega, by omega, rfl, hB⟩
    case round =>
      obtain ⟨j, hjf, hj6, rfl, hB1⟩ := hrel
      by_cases hj5 : j ≤ 5
      · have hj5' : (j : Int) ≤ 5 := by omega
        by_cases hend : q = m ∧ j = f
        · obtain ⟨rfl, rfl⟩ := hend
          go_wp2_with fail
          refine (Decides_any v ps j q _ (HT.out.kept hB1) (by omega) (by omega)).mono ?_
          rintro e w1 ⟨rfl, hb1⟩
          rw [HY.out]
          go_wp2_with fail
          go_ret2
          exact ⟨rfl, up_later hB1 hb1⟩
        · have Hn := Lib.hid (HN.out j q hq hj5 (by omega))
          go_wp2_with fail
          refine (Decides_any v ps j q _ (HT.out.kept hB1) (by omega) (by omega)).mono ?_
          rintro e w1 ⟨rfl, hb1⟩
          rw [Hn.out]
          have hB2 := up_later hB1 hb1
          clear hb1
          go_wp2_with fail
          go_roundw
          case rel => exact ⟨j + 1, fun h => by have := hjf h; omega, by omega, by go_num, hB2⟩
          case measure => simp [intOf]; omega
      · have hj5' : ¬ (j : Int) ≤ 5 := by omega
        have hqm : q < m := by
          rcases Nat.lt_or_ge q m with h | h
          · exact h
          · have := hjf (by omega)
            omega
        go_wp2_with fail
        go_roundw
        case rel => exact ⟨q + 1, by omega, by go_num, hB1⟩
        case measure => simp [intOf]; omega
end Go.Proofs.YtonekgefegfapaaGreat

namespace Go.Proofs.YtonekgefegfapaaGreat
open Go.RowKit

theorem txtE_same {ps qs : List (Value × List Int)} (h : qs.map (·.2) = ps.map (·.2)) : txtE qs = txtE ps := by
  have hl : qs.length = ps.length := by have := congrArg List.length h; simpa using this
  have h1 : ∀ l : List (Value × List Int), l.all fitB5 = (l.map (·.2)).all fun t => decide (t.length ≤ 5) := fun l => by rw [List.all_map]; rfl
  have h2 : ∀ l : List (Value × List Int), l.all spellB = (l.map (·.2)).all fun t => t.all (letB 6) := fun l => by rw [List.all_map]; rfl
  unfold txtE
  rw [hl, h1 qs, h1 ps, h2 qs, h2 ps, h]
theorem txtE_spell {ps : List (Value × List Int)} (h : txtE ps = 0) : ps.all spellB = true ∧ 0 < ps.length := by
  unfold txtE at h
  split at h
  · cases h
  · split at h
    · cases h
    · rename_i h2
      simp only [not_or] at h2
      exact ⟨by simpa using h2.2, by omega⟩
theorem txtE_five {ps : List (Value × List Int)} (h : txtE ps = 0) : ∀ t ∈ ps.map (·.2), t.length ≤ 5 := fun t ht => by
  obtain ⟨p, hp, rfl⟩ := List.mem_map.1 ht
  exact (txtE_ok h).2.1 p hp
theorem rows_texts (v : Value) (ps : List (Value × List Int)) (w : World) (ht : TextsR w v ps) : Calls Tryz.prog 41 #[v] w fun e w' => ∃ u qs, e = .returned u ∧ TextsAny w' u qs ∧ qs.map (·.2) = ps.map (·.2) ∧ Below w.heap.size w w' := by
  have h1 := ht.2.1
  have h2 := ht.2.2
  refine (rows_walk v ps w ht.1 h1 h2).mono ?_
  rintro e w' ⟨u, rfl, ho, hb⟩
  obtain ⟨qs, h3, h4⟩ := ho.any (by rw [List.length_map]; exact h1) (fun t ht => by
    obtain ⟨p, hp, rfl⟩ := List.mem_map.1 ht
    exact h2 p hp)
  exact ⟨u, qs, rfl, h3, h4, hb⟩
theorem texts_few {w : World} {v : Value} {ps : List (Value × List Int)} (h : TextsAny w v ps) (hs : shortB ps = true) : TextsR w v ps :=
  ⟨h, by have := (shortB_ok hs).1; omega, fun p hp => by have := (shortB_ok hs).2 p hp; omega⟩
theorem txtE_four (ps : List (Value × List Int)) : txtE ps = 0 ∨ txtE ps = 2 ∨ txtE ps = 3 ∨ txtE ps = 6 := by
  unfold txtE
  split
  · exact .inr (.inr (.inl rfl))
  · split
    · exact .inr (.inl rfl)
    · split
      · exact .inr (.inr (.inr rfl))
      · exact .inl rfl
set_option maxRecDepth 100000 in
set_option maxHeartbeats 3000000 in
theorem repeats_any (v : Value) (ps : List (Value × List Int)) (w : World) (ht : TextsAny w v ps) : Calls Tryz.prog 7 #[v] w fun e w' => e = .returned (.bool true) ∧ Below w.heap.size w w' := by
  obtain ⟨A, cap, hv, -, -⟩ := ht.1.form
  subst hv
  have HT := Lib.hid ht
  clear ht
  cases hsh : shortB ps with
  | false =>
    have HSh := Lib.hid hsh
    clear hsh
    go_enter Tryz.func7, Tryz.ntmps7
    go_wp2_with fail
    refine (short_any _ ps _ HT.out).mono ?_
    rintro e w1 ⟨rfl, hb1⟩
    rw [HSh.out]
    go_wp2_with fail
    refine (awake_any _).mono ?_
    rintro e w9 ⟨rfl, hb9⟩
    go_wp2_with fail
    go_ret
    exact ⟨rfl, up_later hb1 hb9⟩
  | true =>
    have HSh := Lib.hid hsh
    clear hsh
    obtain ⟨E, hE⟩ : ∃ E, txtE ps = E := ⟨_, rfl⟩
    have HE := Lib.hid hE
    by_cases h0 : E = 0
    · subst h0
      clear hE
      go_enter Tryz.func7, Tryz.ntmps7
      go_wp2_with fail
      refine (short_any _ ps _ HT.out).mono ?_
      rintro e w1 ⟨rfl, hb1⟩
      rw [HSh.out]
      go_wp2_with fail
      refine (rows_texts _ ps _ (texts_few (HT.out.kept hb1) HSh.out)).mono ?_
      rintro e w2 ⟨u2, qs, rfl, hq, hqm, hb2⟩
      have hB2 := up_later hb1 hb2
      have HQ := Lib.hid hq
      have Hqe := Lib.hid (txtE_same hqm)
      have Hqm := Lib.hid hqm
      obtain ⟨qA, qc, hu2, -, -⟩ := hq.1.form
      subst hu2
      clear hb2 hb1 hq hqm
      go_wp2_with fail
      refine (Repeat_any _ qs _ HQ.out).mono ?_
      rintro e w3 ⟨f, m, rfl, hok, hno, hb3⟩
      rw [Hqe.out] at hok hno ⊢
      rw [Hqm.out] at hok
      have HOk := Lib.hid hok
      have HNo := Lib.hid hno
      have hB3 := up_later hB2 hb3
      clear hb3 hB2 hok hno
      rw [HE.out]
      go_wp2_with fail
      refine (ListFault_any _ ps _ (texts_few (HT.out.kept hB3) HSh.out)).mono ?_
      rintro e w4 ⟨rfl, hb4⟩
      rw [HE.out]
      have hB4 := up_later hB3 hb4
      clear hb4 hB3
      go_wp2_with fail
      refine (RRepeat_any _ ps f m _ (texts_few (HT.out.kept hB4) HSh.out) (HOk.out HE.out) (txtE_five HE.out) (spell_ge (txtE_spell HE.out).1)).mono ?_
      rintro e w5 ⟨rfl, hb5⟩
      have hB5 := up_later hB4 hb5
      clear hb5 hB4
      go_wp2_with fail
      refine (awake_any _).mono ?_
      rintro e w9 ⟨rfl, hb9⟩
      go_wp2_with fail
      go_ret
      exact ⟨rfl, up_later hB5 hb9⟩
    · have e1 : (E == 0) = false := beq_eq_false_iff_ne.2 h0
      have e2 : (E != 0) = true := by rw [bne, e1]; rfl
      have HC := Lib.hid h0
      clear hE h0
      go_enter Tryz.func7, Tryz.ntmps7
      go_wp2_with fail
      refine (short_any _ ps _ HT.out).mono ?_
      rintro e w1 ⟨rfl, hb1⟩
      rw [HSh.out]
      go_wp2_with fail
      refine (rows_texts _ ps _ (texts_few (HT.out.kept hb1) HSh.out)).mono ?_
      rintro e w2 ⟨u2, qs, rfl, hq, hqm, hb2⟩
      have hB2 := up_later hb1 hb2
      have HQ := Lib.hid hq
      have Hqe := Lib.hid (txtE_same hqm)
      have Hqm := Lib.hid hqm
      obtain ⟨qA, qc, hu2, -, -⟩ := hq.1.form
      subst hu2
      clear hb2 hb1 hq hqm
      go_wp2_with fail
      refine (Repeat_any _ qs _ HQ.out).mono ?_
      rintro e w3 ⟨f, m, rfl, hok, hno, hb3⟩
      rw [Hqe.out] at hok hno ⊢
      rw [Hqm.out] at hok
      have HOk := Lib.hid hok
      have HNo := Lib.hid hno
      have hB3 := up_later hB2 hb3
      clear hb3 hB2 hok hno
      rw [HE.out]
      obtain ⟨rfl, rfl⟩ := HNo.out (by rw [HE.out]; exact HC.out)
      go_wp2_with fail
      refine (ListFault_any _ ps _ (texts_few (HT.out.kept hB3) HSh.out)).mono ?_
      rintro e w4 ⟨rfl, hb4⟩
      rw [HE.out]
      have hB4 := up_later hB3 hb4
      clear hb4 hB3
      go_wp2_with fail
      refine (awake_any _).mono ?_
      rintro e w9 ⟨rfl, hb9⟩
      go_wp2_with fail
      go_ret
      exact ⟨rfl, up_later hB4 hb9⟩
end Go.Proofs.YtonekgefegfapaaGreat

namespace Go.Proofs.YtonekgefegfapaaGreat
open Go.RowKit

section
variable {P : Program}
theorem gives_slice {o : Oper} {ρ : Operand → Value} {w : World} {K : Value → World → Prop} (t : TypeId) (x : Operand) (lo hi : Option Operand) (ho : o.op = .slice t x lo hi none) (u v : Value) (vlo vhi : Option Value) (hx : ρ x = u)
    (hlo : lo.map ρ = vlo) (hhi : hi.map ρ = vhi) (hr : (Instr.sliceAt t u vlo vhi none).run P w = .ok v w) (hK : K v w) : gives P K ((execOp ρ o).run P w) := by
  unfold execOp
  simp only [ho, hx, hlo, hhi, Option.map_none, Sem.run_bind, Sem.run_pure, hr, Result.andThen_ok]
  exact hK
theorem rows_from {α : Type} {cells : α → List Value} {sz : Nat} {t e : TypeId} {i : TypeInfo} (ht : P.underlying t = some (.slice e)) (hi : P.info? e = some i) (hs : i.size = sz) {A : Option Addr} {cap : Nat} {l : List α} {r : Nat} (hr : r ≤ l.length) (k : IntKind) :
    ∃ V, (∀ w, (Instr.sliceAt t (.slice A l.length cap) (some (.int k (r : Int))) none none).run P w = .ok V w) ∧ ∀ w, RowsAt w (.slice A l.length cap) sz cells l → RowsAt w V sz cells (l.drop r) := by
  refine ⟨.slice (if cap = r then A else A.map (·.add (r * sz))) (l.length - r) (cap - r), fun w => ?_, fun w h => ?_⟩
  · have h0 : (0 : Int) ≤ (r : Int) := by omega
    have h1 : (r : Int) ≤ (l.length : Int) := by omega
    simp [Instr.sliceAt, Instr.slice, run_underlying ht, Instr.sliceBounds, run_sliceBound, sizeOf, typeInfo, hi, hs, h0, hr]
  · obtain ⟨hk, A', cap', e1, h2, h3, h4⟩ := h
    cases e1
    refine ⟨by rw [List.length_drop]; omega, _, _, by rw [List.length_drop], by rw [List.length_drop]; omega, by omega, fun hne => ?_⟩
    have hlt : r < l.length := by
      rcases Nat.lt_or_ge r l.length with h | h
      · exact h
      · exact absurd (List.drop_eq_nil_of_le h) hne
    obtain ⟨b, off, rfl, hb, hc⟩ := h4 (fun e => by rw [e] at hlt; simp at hlt)
    refine ⟨b, off + r * sz, ?_, hb, fun m x hx j u hu => ?_⟩
    · rw [if_neg (by omega)]
      unfold Addr.add
      by_cases h : r * sz = 0 <;> simp [h]
    · rw [List.getElem?_drop] at hx
      have := hc _ x hx j u hu
      rw [Nat.add_mul] at this
      rw [show off + r * sz + m * sz + j = off + (r * sz + m * sz) + j by omega]
      exact this
theorem rows_upto {α : Type} {cells : α → List Value} {sz : Nat} {t e : TypeId} {i : TypeInfo} (ht : P.underlying t = some (.slice e)) (hi : P.info? e = some i) {A : Option Addr} {cap : Nat} {l : List α} {r : Nat} (hr : r ≤ l.length) (hcap : l.length ≤ cap) (k : IntKind) :
    ∃ V, (∀ w, (Instr.sliceAt t (.slice A l.length cap) none (some (.int k (r : Int))) none).run P w = .ok V w) ∧ ∀ w, RowsAt w (.slice A l.length cap) sz cells l → RowsAt w V sz cells (l.take r) := by
  refine ⟨.slice A r cap, fun w => ?_, fun w h => ?_⟩
  · have h0 : (0 : Int) ≤ (r : Int) := by omega
    have h1 : (r : Int) ≤ (cap : Int) := by omega
    have h2 : (if cap = 0 then A else A.map (·.add 0)) = A := by
      split
      · rfl
      · cases A <;> simp [Addr.add]
    simp [Instr.sliceAt, Instr.slice, run_underlying ht, Instr.sliceBounds, run_sliceBound, sizeOf, typeInfo, hi, h0, h1, h2]
  · obtain ⟨hk, A', cap', e1, h2, h3, h4⟩ := h
    cases e1
    have hlen : (l.take r).length = r := by rw [List.length_take]; omega
    refine ⟨by omega, A, cap, by rw [hlen], by omega, h3, fun hne => ?_⟩
    obtain ⟨b, off, rfl, hb, hc⟩ := h4 (fun e => by rw [e] at hne; simp at hne)
    refine ⟨b, off, rfl, hb, fun m x hx j u hu => ?_⟩
    rw [List.getElem?_take] at hx
    split at hx
    · exact hc m x hx j u hu
    · cases hx
end
end Go.Proofs.YtonekgefegfapaaGreat

namespace Go.Proofs.YtonekgefegfapaaGreat
open Go.RowKit

theorem dec_less {ts ls : List (List Int)} (h : ls.Sublist ts) {f m : Nat} (hd : decB ts f m = true) : decB ls f m = true := by
  unfold decB at hd ⊢
  exact decide_eq_true (List.Pairwise.sublist (h.map _) (of_decide_eq_true hd))
theorem short_less {ts ls : List (List Int)} (h : ls.Sublist ts) {f m f' m' : Nat} (h1 : IsShort ts f m) (h2 : IsShort ls f' m') : m' ≤ m := by
  rcases Nat.lt_or_ge m m' with h3 | h3
  · have := h2.few m h3 f h1.f5
    rw [dec_less h h1.yes] at this
    cases this
  · exact h3
theorem txtE_less {ps qs : List (Value × List Int)} (h : (qs.map (·.2)).Sublist (ps.map (·.2))) (h0 : txtE ps = 0) (hq : 0 < qs.length) : txtE qs = 0 := by
  obtain ⟨a1, a2, a3⟩ := txtE_ok h0
  obtain ⟨b1, b2⟩ := txtE_spell h0
  have hl := h.length_le
  rw [List.length_map, List.length_map] at hl
  have hm : ∀ q ∈ qs, ∃ p ∈ ps, p.2 = q.2 := fun q hq => by
    obtain ⟨p, hp, e⟩ := List.mem_map.1 (h.subset (List.mem_map_of_mem hq))
    exact ⟨p, hp, e⟩
  have f1 : qs.all fitB5 = true := List.all_eq_true.2 fun q hq => by
    obtain ⟨p, hp, e⟩ := hm q hq
    unfold fitB5
    rw [← e]
    exact decide_eq_true (a2 p hp)
  have f2 : qs.all spellB = true := List.all_eq_true.2 fun q hq => by
    obtain ⟨p, hp, e⟩ := hm q hq
    have := List.all_eq_true.1 b1 p hp
    unfold spellB at this ⊢
    rw [← e]
    exact this
  unfold txtE
  rw [f1, f2, dec_less h a3, if_neg (fun q => q.elim (fun q => by omega) (fun q => by cases q)), if_neg (fun q => q.elim (fun q => by omega) (fun q => by cases q)), if_neg (by simp)]
theorem less_sub {α : Type} (l : List α) (k : Nat) : (l.take k ++ l.drop (k + 1)).Sublist l := by
  conv => rhs; rw [← List.take_append_drop k l]
  refine List.Sublist.append (List.Sublist.refl _) ?_
  rw [← List.drop_drop]
  exact List.drop_sublist 1 _
/-- A part that decides tells each two texts apart. -/
theorem apart_two {ts : List (List Int)} {f m i j : Nat} {t u : List Int} (h : decL ts f m = true) (hij : i ≠ j) (ht : ts[i]? = some t) (hu : ts[j]? = some u) : ¬ partL f m t = partL f m u := by
  have ha := apart_all.1 h
  rcases Nat.lt_or_ge i j with h1 | h1
  · exact ha i j t u h1 (List.getElem?_eq_some_iff.1 hu).1 ht hu
  · exact fun e => ha j i u t (by omega) (List.getElem?_eq_some_iff.1 ht).1 hu ht e.symm
/-- One text alone needs no part. -/
theorem short_one {ts : List (List Int)} {f m : Nat} (h : IsShort ts f m) (h1 : ts.length ≤ 1) : f = 0 ∧ m = 0 := by
  have hd : ∀ f m, decB ts f m = true := fun f m => by
    rcases ts with _ | ⟨t, _ | ⟨u, r⟩⟩
    · rfl
    · simp [decB]
    · simp at h1
  have hm : m = 0 := by
    rcases Nat.eq_zero_or_pos m with h2 | h2
    · exact h2
    · have := h.few 0 h2 0 (by omega)
      rw [hd] at this
      cases this
  refine ⟨?_, hm⟩
  rcases Nat.eq_zero_or_pos f with h2 | h2
  · exact h2
  · have := h.fst 0 h2
    rw [hd] at this
    cases this
end Go.Proofs.YtonekgefegfapaaGreat

namespace Go.Proofs.YtonekgefegfapaaGreat
open Go.RowKit

section
variable {P : Program}
theorem rows_tail {α : Type} {cells : α → List Value} {sz : Nat} {t e : TypeId} {i : TypeInfo} (ht : P.underlying t = some (.slice e)) (hi : P.info? e = some i) (hs : i.size = sz) {a : Addr} {cap : Nat} {l : List α} {r : Nat} (hr : r ≤ l.length) (k : IntKind) :
    ∃ ad, (∀ w, (Instr.sliceAt t (.slice (some a) l.length cap) (some (.int k (r : Int))) none none).run P w = .ok (.slice (some ad) (l.length - r) (cap - r)) w) ∧ ∀ w, RowsAt w (.slice (some a) l.length cap) sz cells l → RowsAt w (.slice (some ad) (l.length - r) (cap - r)) sz cells (l.drop r) := by
  obtain ⟨V, h1, h2⟩ := rows_from (cells := cells) ht hi hs (A := some a) (cap := cap) hr k
  have hv : ∀ w : World, V = .slice (if cap = r then some a else (some a).map (·.add (r * sz))) (l.length - r) (cap - r) := fun w => by
    have h0 : (0 : Int) ≤ (r : Int) := by omega
    have h3 := h1 w
    have h4 : (Instr.sliceAt t (.slice (some a) l.length cap) (some (.int k (r : Int))) none none).run P w = .ok (.slice (if cap = r then some a else (some a).map (·.add (r * sz))) (l.length - r) (cap - r)) w := by
      simp [Instr.sliceAt, Instr.slice, run_underlying ht, Instr.sliceBounds, run_sliceBound, sizeOf, typeInfo, hi, hs, h0, hr]
    rw [h4] at h3
    injection h3 with h3
    exact h3.symm
  refine ⟨if cap = r then a else a.add (r * sz), fun w => ?_, fun w h => ?_⟩
  · rw [h1 w, hv w]
    split <;> rfl
  · have h5 := h2 w h
    rw [hv w] at h5
    split at h5 <;> rename_i hc
    · rw [if_pos hc]; exact h5
    · rw [if_neg hc]; exact h5
end
def Fact.texts (B : Nat) (ts : List (List Int)) : Fact := ⟨fun v w => ∃ A p us, v = .slice A ts.length p ∧ w.ownsRow B 25 1 (.slice A ts.length p) ts.length us ∧ ∀ (i : Nat) (u : Value) (t : List Int), us[i]? = some u → ts[i]? = some t → w.ownsRow B 3 1 u t.length (t.map fun x => iv x),
  fun _ _ _ ⟨A, p, us, h, h1, h2⟩ hb => ⟨A, p, us, h, own_below h1 hb, fun i u t hu ht => own_below (h2 i u t hu ht) hb⟩, false, fun _ _ h => by cases h⟩
/-- Lists of one's own, with others that came in behind them. -/
theorem less_any {B : Nat} {w : World} {v : Value} {us : List Value} {ts : List (List Int)} {ps : List (Value × List Int)} (h : w.ownsRow B 25 1 v (ts.length + ps.length) (us ++ ps.map (·.1))) (hul : us.length = ts.length) (hn : ts.length + ps.length ≤ 1000) (hs : ∀ t ∈ ts, t.length ≤ 1000)
    (h1 : ∀ (i : Nat) (u : Value) (t : List Int), us[i]? = some u → ts[i]? = some t → w.ownsRow B 3 1 u t.length (t.map fun x => iv x)) (h2 : ∀ p ∈ ps, RowsAny w p.1 1 ic p.2) : ∃ qs : List (Value × List Int), TextsAny w v qs ∧ qs.map (·.2) = ts ++ ps.map (·.2) := by
  have e1 : (us.zip ts).map (·.1) = us := List.map_fst_zip (by omega)
  have e2 : (us.zip ts).map (·.2) = ts := List.map_snd_zip (by omega)
  have hf : ∀ l : List (Value × List Int), l.flatMap pc = l.map (·.1) := fun l => by
    induction l with
    | nil => rfl
    | cons x l ih => rw [List.flatMap_cons, ih]; rfl
  have hl : (us.zip ts ++ ps).length = ts.length + ps.length := by rw [List.length_append, List.length_zip]; omega
  refine ⟨us.zip ts ++ ps, ⟨rows_any (rows_of_own (cells := pc) (by rw [hf, List.map_append, e1]; exact h) hl.symm (fun _ => rfl) (by omega)), fun p hp => ?_⟩, by rw [List.map_append, e2]⟩
  rcases List.mem_append.1 hp with hp | hp
  · obtain ⟨i, hi⟩ := List.mem_iff_getElem?.1 hp
    have hz := List.getElem?_zip_eq_some.1 hi
    exact rows_any (text_rows (h1 i p.1 p.2 hz.1 hz.2) (hs _ (List.mem_of_getElem? hz.2)))
  · exact h2 p hp
set_option maxRecDepth 100000 in
set_option maxHeartbeats 4000000 in
theorem decides_law (v : Value) (ps : List (Value × List Int)) (wh fr ma : Int) (w : World) (ht : TextsAny w v ps) (bw : 0 ≤ wh ∧ wh ≤ 255) (bf : 0 ≤ fr ∧ fr ≤ 255) (bm : 0 ≤ ma ∧ ma ≤ 255) :
    Calls Tryz.prog 15 #[v, .int .u8 wh, .int .u8 fr, .int .u8 ma] w fun e w' => e = .returned (.bool true) ∧ Below w.heap.size w w' := by
  obtain ⟨A, cap, hv, hcap, hcmx⟩ := ht.1.form
  subst hv
  have HT := Lib.hid ht
  have HCap := Lib.hid hcap
  clear ht hcap hcmx
  cases hsh : shortB ps with
  | false =>
    have HSh := Lib.hid hsh
    clear hsh
    go_enter Tryz.func15, Tryz.ntmps15
    go_wp2_with fail
    refine (short_any _ ps _ HT.out).mono ?_
    rintro e w1 ⟨rfl, hb1⟩
    rw [HSh.out]
    go_wp2_with fail
    refine (awake_any _).mono ?_
    rintro e w9 ⟨rfl, hb9⟩
    go_wp2_with fail
    go_ret
    exact ⟨rfl, up_later hb1 hb9⟩
  | true =>
    have HSh := Lib.hid hsh
    clear hsh
    obtain ⟨E, hE⟩ : ∃ E, txtE ps = E := ⟨_, rfl⟩
    have HE := Lib.hid hE
    by_cases h0 : E = 0
    case neg =>
      have e1 : (E == 0) = false := beq_eq_false_iff_ne.2 h0
      have e2 : (E != 0) = true := by rw [bne, e1]; rfl
      clear hE h0
      go_enter Tryz.func15, Tryz.ntmps15
      go_wp2_with fail
      refine (short_any _ ps _ HT.out).mono ?_
      rintro e w1 ⟨rfl, hb1⟩
      rw [HSh.out]
      go_wp2_with fail
      refine (ListFault_any _ ps _ (texts_few (HT.out.kept hb1) HSh.out)).mono ?_
      rintro e w2 ⟨rfl, hb2⟩
      rw [HE.out]
      have hB2 := up_later hb1 hb2
      clear hb1 hb2
      go_wp2_with fail
      refine (awake_any _).mono ?_
      rintro e w9 ⟨rfl, hb9⟩
      go_wp2_with fail
      go_ret
      exact ⟨rfl, up_later hB2 hb9⟩
    subst h0
    have hlen := (shortB_ok HSh.out).1
    have hlen0 := (txtE_spell hE).2
    clear hE
    go_enter Tryz.func15, Tryz.ntmps15
    go_wp2_with fail
    refine (short_any _ ps _ HT.out).mono ?_
    rintro e w1 ⟨rfl, hb1⟩
    rw [HSh.out]
    go_wp2_with fail
    refine (ListFault_any _ ps _ (texts_few (HT.out.kept hb1) HSh.out)).mono ?_
    rintro e w2 ⟨rfl, hb2⟩
    rw [HE.out]
    have hB2 := up_later hb1 hb2
    clear hb1 hb2
    go_wp2_with fail
    refine (rows_texts _ ps _ (texts_few (HT.out.kept hB2) HSh.out)).mono ?_
    rintro e w3 ⟨u3, qs, rfl, hq, hqm, hb3⟩
    have hB3 := up_later hB2 hb3
    have HQ := Lib.hid hq
    have Hqe := Lib.hid ((txtE_same hqm).trans HE.out)
    have Hqm := Lib.hid hqm
    obtain ⟨qA, qc, hu2, -, -⟩ := hq.1.form
    subst hu2
    clear hb3 hB2 hq hqm
    go_wp2_with fail
    refine (Repeat_any _ qs _ HQ.out).mono ?_
    rintro e w4 ⟨f, m, rfl, hok, -, hb4⟩
    rw [Hqe.out]
    have hok := hok Hqe.out
    rw [Hqm.out] at hok
    have HS := Lib.hid hok
    have hm5 := hok.m5
    have hf5 := hok.f5
    have hB4 := up_later hB3 hb4
    have HD := Lib.hid (show decL (ps.map (·.2)) f m = true by rw [decL_same hok.m5 (spell_ge (txtE_spell HE.out).1)]; exact hok.yes)
    clear hb4 hB3 hok
    have f0 : ¬ (f : Int) < 0 := by omega
    have m0 : ¬ (m : Int) < 0 := by omega
    have m5 : ¬ (5 : Int) < (m : Int) := by omega
    go_wp2_with fail
    refine (Decides_any _ ps f m _ (texts_few (HT.out.kept hB4) HSh.out) (by omega) (by omega)).mono ?_
    rintro e w5 ⟨rfl, hb5⟩
    rw [HD.out]
    have hB5 := up_later hB4 hb5
    clear hb5 hB4
    obtain ⟨k, hk⟩ : ∃ k : Nat, wh.toNat % ps.length = k := ⟨_, rfl⟩
    have hkl : k < ps.length := by rw [← hk]; exact Nat.mod_lt _ hlen0
    have hT : wh.tmod (ps.length : Int) = (k : Int) := by
      rw [Int.tmod_eq_emod_of_nonneg bw.1, ← hk, Int.natCast_emod, Int.toNat_of_nonneg bw.1]
    have l0 : ¬ (ps.length : Int) = 0 := by omega
    have l0' : ((ps.length : Int) == 0) = false := by rw [beq_eq_false_iff_ne]; omega
    clear hk
    go_wp2_with fail
    go_loopw [13] (fun i wr => ∃ j : Nat, j ≤ ps.length ∧ i = iv j ∧ Below w.heap.size w wr) (fun i _ => ps.length - (intOf i).toNat)
    case atStart => exact ⟨0, by omega, rfl, hB5⟩
    case round =>
      obtain ⟨j, hj, rfl, hB6⟩ := hrel
      by_cases hlt : j < ps.length
      · have hlt' : (j : Int) < (ps.length : Int) := by omega
        have j0 : (0 : Int) ≤ (j : Int) := by omega
        have k0 : (0 : Int) ≤ (k : Int) := by omega
        have kl : (k : Int) < (ps.length : Int) := by omega
        by_cases hjk : j = k
        · have hne : ((j : Int) != (k : Int)) = false := by rw [bne_eq_false_iff_eq]; omega
          have HB6 := Lib.hid hB6
          clear hB6 hB5 hT
          go_wp2_with fail
          apply wp_region_by 20 [(Fact.eq _), (Fact.eq _), (Fact.eq (.bool false)), (Fact.eq _), (Fact.eq _), (Fact.eq _), (Fact.eq _), (Fact.eq _), (Fact.eq _), (Fact.eq _), (Fact.eq _), (Fact.eq _), (Fact.eq _), (Fact.eq _), (Fact.eq _), (Fact.eq _), (Fact.eq _), (Fact.eq _), (Fact.eq _), (Fact.eq _)]
          case hm => kernel_rfl
          case hB => kernel_rfl
          case hA => (intro vs; simp only [List.take_succ_cons, List.take_zero, putAll, if_true, Act.put, List.setIfInBounds_toArray, List.set_cons_zero, List.set_cons_succ]; exact rfl)
          case hstep =>
            intro vs
            refine And.intro (fun w hw hd => ?_) ?_
            · refine ite_yes rfl ?_
              simp only [Gives]
              go_simp
              exact ⟨Below.refl _ _, rfl, fun h => by cases h⟩
            refine And.intro (fun w hw hd => ?_) ?_
            · refine ite_yes rfl ?_
              simp only [Gives]
              go_simp
              exact ⟨Below.refl _ _, rfl, fun h => by cases h⟩
            refine And.intro (fun w hw hd => ?_) ?_
            · have d0 := hd 0 (by decide) rfl
              change vs 0 = _ at d0
              have d1 := hd 1 (by decide) rfl
              change vs 1 = _ at d1
              refine ite_yes rfl ?_
              simp only [Gives]
              go_simp
              (try rw [hne])
              exact ⟨Below.refl _ _, rfl, fun h => by cases h⟩
            refine And.intro (fun w hw hd => ?_) ?_
            · have d2 := hd 2 (by decide) rfl
              change vs 2 = _ at d2
              refine ite_yes rfl ?_
              simp only [Gives]
              go_simp
              exact ⟨Below.refl _ _, rfl, fun h => by cases h⟩
            refine And.intro (fun w hw hd => ?_) ?_
            · have d3 := hd 3 (by decide) rfl
              change vs 3 = _ at d3
              refine ite_no (by simp [Region.wanted, yielded, d3]) ?_
              exact ⟨rfl, rfl⟩
            refine And.intro (fun w hw hd => ?_) ?_
            · have d3 := hd 3 (by decide) rfl
              change vs 3 = _ at d3
              refine ite_no (by simp [Region.wanted, yielded, d3]) ?_
              exact ⟨rfl, rfl⟩
            refine And.intro (fun w hw hd => ?_) ?_
            · have d4 := hd 4 (by decide) rfl
              change vs 4 = _ at d4
              have d5 := hd 5 (by decide) rfl
              change vs 5 = _ at d5
              have d3 := hd 3 (by decide) rfl
              change vs 3 = _ at d3
              refine ite_no (by simp [Region.wanted, yielded, d3]) ?_
              exact ⟨rfl, rfl⟩
            refine And.intro (fun w hw hd => ?_) ?_
            · have d6 := hd 6 (by decide) rfl
              change vs 6 = _ at d6
              have d3 := hd 3 (by decide) rfl
              change vs 3 = _ at d3
              refine ite_no (by simp [Region.wanted, yielded, d3]) ?_
              exact ⟨rfl, rfl⟩
            refine And.intro (fun w hw hd => ?_) ?_
            · have d3 := hd 3 (by decide) rfl
              change vs 3 = _ at d3
              refine ite_no (by simp [Region.wanted, yielded, d3]) ?_
              exact ⟨rfl, rfl⟩
            refine And.intro (fun w hw hd => ?_) ?_
            · have d3 := hd 3 (by decide) rfl
              change vs 3 = _ at d3
              refine ite_no (by simp [Region.wanted, yielded, d3]) ?_
              exact ⟨rfl, rfl⟩
            refine And.intro (fun w hw hd => ?_) ?_
            · have d7 := hd 7 (by decide) rfl
              change vs 7 = _ at d7
              have d8 := hd 8 (by decide) rfl
              change vs 8 = _ at d8
              have d9 := hd 9 (by decide) rfl
              change vs 9 = _ at d9
              have d3 := hd 3 (by decide) rfl
              change vs 3 = _ at d3
              refine ite_no (by simp [Region.wanted, yielded, d3]) ?_
              exact ⟨rfl, rfl⟩
            refine And.intro (fun w hw hd => ?_) ?_
            · have d3 := hd 3 (by decide) rfl
              change vs 3 = _ at d3
              refine ite_no (by simp [Region.wanted, yielded, d3]) ?_
              exact ⟨rfl, rfl⟩
            refine And.intro (fun w hw hd => ?_) ?_
            · have d3 := hd 3 (by decide) rfl
              change vs 3 = _ at d3
              refine ite_no (by simp [Region.wanted, yielded, d3]) ?_
              exact ⟨rfl, rfl⟩
            refine And.intro (fun w hw hd => ?_) ?_
            · have d11 := hd 11 (by decide) rfl
              change vs 11 = _ at d11
              have d12 := hd 12 (by decide) rfl
              change vs 12 = _ at d12
              have d3 := hd 3 (by decide) rfl
              change vs 3 = _ at d3
              refine ite_no (by simp [Region.wanted, yielded, d3]) ?_
              exact ⟨rfl, rfl⟩
            refine And.intro (fun w hw hd => ?_) ?_
            · have d13 := hd 13 (by decide) rfl
              change vs 13 = _ at d13
              have d3 := hd 3 (by decide) rfl
              change vs 3 = _ at d3
              refine ite_no (by simp [Region.wanted, yielded, d3]) ?_
              exact ⟨rfl, rfl⟩
            refine And.intro (fun w hw hd => ?_) ?_
            · have d3 := hd 3 (by decide) rfl
              change vs 3 = _ at d3
              refine ite_no (by simp [Region.wanted, yielded, d3]) ?_
              exact ⟨rfl, rfl⟩
            refine And.intro (fun w hw hd => ?_) ?_
            · have d3 := hd 3 (by decide) rfl
              change vs 3 = _ at d3
              refine ite_no (by simp [Region.wanted, yielded, d3]) ?_
              exact ⟨rfl, rfl⟩
            refine And.intro (fun w hw hd => ?_) ?_
            · have d14 := hd 14 (by decide) rfl
              change vs 14 = _ at d14
              have d15 := hd 15 (by decide) rfl
              change vs 15 = _ at d15
              have d16 := hd 16 (by decide) rfl
              change vs 16 = _ at d16
              have d3 := hd 3 (by decide) rfl
              change vs 3 = _ at d3
              refine ite_no (by simp [Region.wanted, yielded, d3]) ?_
              exact ⟨rfl, rfl⟩
            refine And.intro (fun w hw hd => ?_) ?_
            · have d10 := hd 10 (by decide) rfl
              change vs 10 = _ at d10
              have d17 := hd 17 (by decide) rfl
              change vs 17 = _ at d17
              have d3 := hd 3 (by decide) rfl
              change vs 3 = _ at d3
              refine ite_no (by simp [Region.wanted, yielded, d3]) ?_
              exact ⟨rfl, rfl⟩
            refine And.intro (fun w hw hd => ?_) ?_
            · have d3 := hd 3 (by decide) rfl
              change vs 3 = _ at d3
              have d18 := hd 18 (by decide) rfl
              change vs 18 = _ at d18
              refine ite_yes rfl ?_
              simp only [Gives]
              go_simp
              exact ⟨Below.refl _ _, rfl, fun h => by cases h⟩
            exact trivial
          intro vs wt hw hd hne hlo
          have d0 := hd 0 (by decide)
          change vs 0 = _ at d0
          have d1 := hd 1 (by decide)
          change vs 1 = _ at d1
          have d2 := hd 2 (by decide)
          change vs 2 = _ at d2
          have d3 := hd 3 (by decide)
          change vs 3 = _ at d3
          have d4 := hd 4 (by decide)
          change vs 4 = _ at d4
          have d5 := hd 5 (by decide)
          change vs 5 = _ at d5
          have d6 := hd 6 (by decide)
          change vs 6 = _ at d6
          have d7 := hd 7 (by decide)
          change vs 7 = _ at d7
          have d8 := hd 8 (by decide)
          change vs 8 = _ at d8
          have d9 := hd 9 (by decide)
          change vs 9 = _ at d9
          have d10 := hd 10 (by decide)
          change vs 10 = _ at d10
          have d11 := hd 11 (by decide)
          change vs 11 = _ at d11
          have d12 := hd 12 (by decide)
          change vs 12 = _ at d12
          have d13 := hd 13 (by decide)
          change vs 13 = _ at d13
          have d14 := hd 14 (by decide)
          change vs 14 = _ at d14
          have d15 := hd 15 (by decide)
          change vs 15 = _ at d15
          have d16 := hd 16 (by decide)
          change vs 16 = _ at d16
          have d17 := hd 17 (by decide)
          change vs 17 = _ at d17
          have d18 := hd 18 (by decide)
          change vs 18 = _ at d18
          have d19 := hd 19 (by decide)
          change vs 19 = _ at d19
          simp only [d0, d1, d3, d4, d5, d6, d7, d8, d9, d10, d11, d12, d13, d14, d15, d16, d17, d18, d19, List.drop_succ_cons, List.drop_nil]
          clear hd hne hlo d0 d1 d3 d4 d5 d6 d7 d8 d9 d10 d11 d12 d13 d14 d15 d16 d17 d18 d19
          have hB7 := up_later HB6.out hw
          go_wp2_with fail
          go_roundw
          case rel => exact ⟨j + 1, by omega, by go_num, hB7⟩
          case measure => simp [intOf]; omega
        · have hne : ((j : Int) != (k : Int)) = true := by rw [bne_iff_ne]; omega
          obtain ⟨⟨xv, x⟩, hx⟩ : ∃ x, ps[j]? = some x := ⟨_, List.getElem?_eq_getElem hlt⟩
          obtain ⟨⟨yv, y⟩, hy⟩ : ∃ x, ps[k]? = some x := ⟨_, List.getElem?_eq_getElem hkl⟩
          have HR := texts_few (HT.out.kept hB6) HSh.out
          obtain ⟨b, off, rfl, hb, q0, r0⟩ := HR.at hx
          obtain ⟨b', off', e', hb', q1, r1⟩ := HR.at hy
          injection e' with e'
          injection e' with e1 e2
          subst e1 e2
          have R0 := Lib.hid r0
          have R1 := Lib.hid r1
          have HDn := Lib.hid (show decide (partL f m x = partL f m y) = false from decide_eq_false (apart_two HD.out hjk (show (ps.map (·.2))[j]? = some x by rw [List.getElem?_map, hx]; rfl) (show (ps.map (·.2))[k]? = some y by rw [List.getElem?_map, hy]; rfl)))
          simp only at q0 q1
          have HB6 := Lib.hid hB6
          clear hx hy r0 r1 hB6 hB5 HR hT
          go_wp2_with fail
          apply wp_region_by 20 [(Fact.eq _), (Fact.eq _), (Fact.eq (.bool true)), (Fact.eq _), (Fact.eq _), (Fact.eq _), (Fact.eq _), (Fact.eq _), (Fact.eq _), (Fact.eq _), (Fact.rowP (partL f m x)), (Fact.eq _), (Fact.eq _), (Fact.eq _), (Fact.eq _), (Fact.eq _), (Fact.eq _), (Fact.rowP (partL f m y)), (Fact.eq (.bool false)), (Fact.eq _)]
          case hm => kernel_rfl
          case hB => kernel_rfl
          case hA => (intro vs; simp only [List.take_succ_cons, List.take_zero, putAll, if_true, Act.put, List.setIfInBounds_toArray, List.set_cons_zero, List.set_cons_succ]; exact rfl)
          case hstep =>
            intro vs
            refine And.intro (fun w hw hd => ?_) ?_
            · refine ite_yes rfl ?_
              simp only [Gives]
              go_simp
              exact ⟨Below.refl _ _, rfl, fun h => by cases h⟩
            refine And.intro (fun w hw hd => ?_) ?_
            · refine ite_yes rfl ?_
              simp only [Gives]
              go_simp
              exact ⟨Below.refl _ _, rfl, fun h => by cases h⟩
            refine And.intro (fun w hw hd => ?_) ?_
            · have d0 := hd 0 (by decide) rfl
              change vs 0 = _ at d0
              have d1 := hd 1 (by decide) rfl
              change vs 1 = _ at d1
              refine ite_yes rfl ?_
              simp only [Gives]
              go_simp
              (try rw [hne])
              exact ⟨Below.refl _ _, rfl, fun h => by cases h⟩
            refine And.intro (fun w hw hd => ?_) ?_
            · have d2 := hd 2 (by decide) rfl
              change vs 2 = _ at d2
              refine ite_yes rfl ?_
              simp only [Gives]
              go_simp
              exact ⟨Below.refl _ _, rfl, fun h => by cases h⟩
            refine And.intro (fun w hw hd => ?_) ?_
            · have d3 := hd 3 (by decide) rfl
              change vs 3 = _ at d3
              refine ite_yes (by simp [Region.wanted, yielded, d3]) ?_
              simp only [Gives]
              go_simp
              exact ⟨Below.refl _ _, rfl, fun h => by cases h⟩
            refine And.intro (fun w hw hd => ?_) ?_
            · have d3 := hd 3 (by decide) rfl
              change vs 3 = _ at d3
              refine ite_yes (by simp [Region.wanted, yielded, d3]) ?_
              simp only [Gives]
              go_simp
              exact ⟨Below.refl _ _, rfl, fun h => by cases h⟩
            refine And.intro (fun w hw hd => ?_) ?_
            · have d4 := hd 4 (by decide) rfl
              change vs 4 = _ at d4
              have d5 := hd 5 (by decide) rfl
              change vs 5 = _ at d5
              have d3 := hd 3 (by decide) rfl
              change vs 3 = _ at d3
              refine ite_yes (by simp [Region.wanted, yielded, d3]) ?_
              simp only [Gives]
              go_simp
              exact ⟨Below.refl _ _, rfl, fun h => by cases h⟩
            refine And.intro (fun w hw hd => ?_) ?_
            · have d6 := hd 6 (by decide) rfl
              change vs 6 = _ at d6
              have d3 := hd 3 (by decide) rfl
              change vs 3 = _ at d3
              refine ite_yes (by simp [Region.wanted, yielded, d3]) ?_
              have p0 := (hw.cell (p := ⟨b, off + j, none⟩) hb).trans q0
              have p1 := (hw.cell (p := ⟨b, off + k, none⟩) hb).trans q1
              simp only [Gives]
              go_simp
              exact ⟨Below.refl _ _, rfl, fun h => by cases h⟩
            refine And.intro (fun w hw hd => ?_) ?_
            · have d3 := hd 3 (by decide) rfl
              change vs 3 = _ at d3
              refine ite_yes (by simp [Region.wanted, yielded, d3]) ?_
              simp only [Gives]
              go_simp
              exact ⟨Below.refl _ _, rfl, fun h => by cases h⟩
            refine And.intro (fun w hw hd => ?_) ?_
            · have d3 := hd 3 (by decide) rfl
              change vs 3 = _ at d3
              refine ite_yes (by simp [Region.wanted, yielded, d3]) ?_
              simp only [Gives]
              go_simp
              exact ⟨Below.refl _ _, rfl, fun h => by cases h⟩
            refine And.intro (fun w hw hd => ?_) ?_
            · have d7 := hd 7 (by decide) rfl
              change vs 7 = _ at d7
              have d8 := hd 8 (by decide) rfl
              change vs 8 = _ at d8
              have d9 := hd 9 (by decide) rfl
              change vs 9 = _ at d9
              have d3 := hd 3 (by decide) rfl
              change vs 3 = _ at d3
              refine ite_yes (by simp [Region.wanted, yielded, d3]) ?_
              simp only [Gives]
              go_simp
              refine (Part_any xv x f m w (R0.out.kept hw) (by omega) (by omega)).mono ?_
              rintro e w7 ⟨u, rfl, hu, hb⟩
              exact ⟨_, rfl, hb, hu, fun h => by cases h⟩
            refine And.intro (fun w hw hd => ?_) ?_
            · have d3 := hd 3 (by decide) rfl
              change vs 3 = _ at d3
              refine ite_yes (by simp [Region.wanted, yielded, d3]) ?_
              simp only [Gives]
              go_simp
              exact ⟨Below.refl _ _, rfl, fun h => by cases h⟩
            refine And.intro (fun w hw hd => ?_) ?_
            · have d3 := hd 3 (by decide) rfl
              change vs 3 = _ at d3
              refine ite_yes (by simp [Region.wanted, yielded, d3]) ?_
              simp only [Gives]
              go_simp
              exact ⟨Below.refl _ _, rfl, fun h => by cases h⟩
            refine And.intro (fun w hw hd => ?_) ?_
            · have d11 := hd 11 (by decide) rfl
              change vs 11 = _ at d11
              have d12 := hd 12 (by decide) rfl
              change vs 12 = _ at d12
              have d3 := hd 3 (by decide) rfl
              change vs 3 = _ at d3
              refine ite_yes (by simp [Region.wanted, yielded, d3]) ?_
              simp only [Gives]
              go_simp
              exact ⟨Below.refl _ _, rfl, fun h => by cases h⟩
            refine And.intro (fun w hw hd => ?_) ?_
            · have d13 := hd 13 (by decide) rfl
              change vs 13 = _ at d13
              have d3 := hd 3 (by decide) rfl
              change vs 3 = _ at d3
              refine ite_yes (by simp [Region.wanted, yielded, d3]) ?_
              have p0 := (hw.cell (p := ⟨b, off + j, none⟩) hb).trans q0
              have p1 := (hw.cell (p := ⟨b, off + k, none⟩) hb).trans q1
              simp only [Gives]
              go_simp
              exact ⟨Below.refl _ _, rfl, fun h => by cases h⟩
            refine And.intro (fun w hw hd => ?_) ?_
            · have d3 := hd 3 (by decide) rfl
              change vs 3 = _ at d3
              refine ite_yes (by simp [Region.wanted, yielded, d3]) ?_
              simp only [Gives]
              go_simp
              exact ⟨Below.refl _ _, rfl, fun h => by cases h⟩
            refine And.intro (fun w hw hd => ?_) ?_
            · have d3 := hd 3 (by decide) rfl
              change vs 3 = _ at d3
              refine ite_yes (by simp [Region.wanted, yielded, d3]) ?_
              simp only [Gives]
              go_simp
              exact ⟨Below.refl _ _, rfl, fun h => by cases h⟩
            refine And.intro (fun w hw hd => ?_) ?_
            · have d14 := hd 14 (by decide) rfl
              change vs 14 = _ at d14
              have d15 := hd 15 (by decide) rfl
              change vs 15 = _ at d15
              have d16 := hd 16 (by decide) rfl
              change vs 16 = _ at d16
              have d3 := hd 3 (by decide) rfl
              change vs 3 = _ at d3
              refine ite_yes (by simp [Region.wanted, yielded, d3]) ?_
              simp only [Gives]
              go_simp
              refine (Part_any yv y f m w (R1.out.kept hw) (by omega) (by omega)).mono ?_
              rintro e w7 ⟨u, rfl, hu, hb⟩
              exact ⟨_, rfl, hb, hu, fun h => by cases h⟩
            refine And.intro (fun w hw hd => ?_) ?_
            · have d10 := hd 10 (by decide) rfl
              have d17 := hd 17 (by decide) rfl
              have d3 := hd 3 (by decide) rfl
              change vs 3 = _ at d3
              refine ite_yes (by simp [Region.wanted, yielded, d3]) ?_
              simp only [Gives]
              go_simp
              refine (Same_any _ _ (partL f m x) (partL f m y) w d10 d17).mono ?_
              rintro e w7 ⟨rfl, hb⟩
              rw [HDn.out]
              exact ⟨_, rfl, hb, rfl, fun h => by cases h⟩
            refine And.intro (fun w hw hd => ?_) ?_
            · have d3 := hd 3 (by decide) rfl
              change vs 3 = _ at d3
              have d18 := hd 18 (by decide) rfl
              change vs 18 = _ at d18
              refine ite_yes rfl ?_
              simp only [Gives]
              go_simp
              exact ⟨Below.refl _ _, rfl, fun h => by cases h⟩
            exact trivial
          intro vs wt hw hd hne hlo
          have d0 := hd 0 (by decide)
          change vs 0 = _ at d0
          have d1 := hd 1 (by decide)
          change vs 1 = _ at d1
          have d2 := hd 2 (by decide)
          change vs 2 = _ at d2
          have d3 := hd 3 (by decide)
          change vs 3 = _ at d3
          have d4 := hd 4 (by decide)
          change vs 4 = _ at d4
          have d5 := hd 5 (by decide)
          change vs 5 = _ at d5
          have d6 := hd 6 (by decide)
          change vs 6 = _ at d6
          have d7 := hd 7 (by decide)
          change vs 7 = _ at d7
          have d8 := hd 8 (by decide)
          change vs 8 = _ at d8
          have d9 := hd 9 (by decide)
          change vs 9 = _ at d9
          have d10 := hd 10 (by decide)
          have d11 := hd 11 (by decide)
          change vs 11 = _ at d11
          have d12 := hd 12 (by decide)
          change vs 12 = _ at d12
          have d13 := hd 13 (by decide)
          change vs 13 = _ at d13
          have d14 := hd 14 (by decide)
          change vs 14 = _ at d14
          have d15 := hd 15 (by decide)
          change vs 15 = _ at d15
          have d16 := hd 16 (by decide)
          change vs 16 = _ at d16
          have d17 := hd 17 (by decide)
          have d18 := hd 18 (by decide)
          change vs 18 = _ at d18
          have d19 := hd 19 (by decide)
          change vs 19 = _ at d19
          simp only [d0, d1, d3, d4, d5, d6, d7, d8, d9, d11, d12, d13, d14, d15, d16, d19, List.drop_succ_cons, List.drop_nil]
          clear hd hne hlo d0 d1 d3 d4 d5 d6 d7 d8 d9 d11 d12 d13 d14 d15 d16 d19
          have hB7 := up_later HB6.out hw
          go_wp2_with fail
          go_roundw
          case rel => exact ⟨j + 1, by omega, by go_num, hB7⟩
          case measure => simp [intOf]; omega
      · have hlt' : ¬ (j : Int) < (ps.length : Int) := by omega
        clear hB5
        obtain ⟨r1, hr1⟩ : ∃ r : Nat, fr.toNat % 6 = r := ⟨_, rfl⟩
        obtain ⟨r2, hr2⟩ : ∃ r : Nat, ma.toNat % 6 = r := ⟨_, rfl⟩
        have hF : fr.tmod 6 = (r1 : Int) := by rw [Int.tmod_eq_emod_of_nonneg bf.1]; omega
        have hM : ma.tmod 6 = (r2 : Int) := by rw [Int.tmod_eq_emod_of_nonneg bm.1]; omega
        have h15 : r1 ≤ 5 := by omega
        have h25 : r2 ≤ 5 := by omega
        clear hr1 hr2
        by_cases ha1 : r2 < m
        · have HNo := Lib.hid (short_no HS.out (txtE_five HE.out) (spell_ge (txtE_spell HE.out).1) (j := r1) (q := r2) (by omega) h15 (by omega))
          have ha1' : (r2 : Int) < (m : Int) := by omega
          go_wp2_with fail
          refine (Decides_any _ ps r1 r2 _ (texts_few (HT.out.kept hB6) HSh.out) h15 h25).mono ?_
          rintro e w6 ⟨rfl, hb6⟩
          rw [HNo.out]
          have hB7 := up_later hB6 hb6
          clear hb6 hB6
          go_wp2_with fail
          have HB := Lib.hid hB7
          clear hB7
          obtain ⟨xk, hxk⟩ : ∃ x, ps[k]? = some x := ⟨_, List.getElem?_eq_getElem hkl⟩
          obtain ⟨b, off, rfl, -, -, -⟩ := HT.out.at hxk
          clear hxk
          obtain ⟨i0, hi0, hz0, hz1, hz2⟩ := info_parts texts_info
          obtain ⟨V1, hV1, hV2⟩ := rows_upto (P := Tryz.prog) (cells := pc) (sz := 1) (A := some ⟨b, off, none⟩) (cap := cap) (l := ps) (r := k) Tryz.underlying50 hi0 (by omega) HCap.out .i64
          obtain ⟨ad, hA1, hA2⟩ := rows_tail (P := Tryz.prog) (cells := pc) (sz := 1) (a := ⟨b, off, none⟩) (cap := cap) (l := ps) (r := k + 1) Tryz.underlying50 hi0 hz1 (by omega) .i64
          have HV1 := Lib.hid hV1
          have HV2 := Lib.hid hV2
          have HA1 := Lib.hid hA1
          have HA2 := Lib.hid hA2
          obtain ⟨T, hTT⟩ : ∃ T, (ps.take k).map (·.2) = T := ⟨_, rfl⟩
          have HTT := Lib.hid hTT
          have hTl : T.length = k := by rw [← hTT, List.length_map, List.length_take]; omega
          have HTs : Hid (∀ t ∈ T, t.length ≤ 1000) := Lib.hid fun t ht => by
            rw [← hTT] at ht
            obtain ⟨p, hp, rfl⟩ := List.mem_map.1 ht
            have := (shortB_ok HSh.out).2 p (List.mem_of_mem_take hp)
            omega
          have hWk : IntKind.i64.wrap ((k : Int) + 1) = ((k + 1 : Nat) : Int) := by rw [wrapK_in _ 3000 (by omega) (by omega)]; rfl
          clear hV1 hV2 hA1 hA2 hTT
          apply wp_region_by 8 [(Fact.eq _), (Fact.eq _), (Fact.eq V1), (Fact.texts w6.heap.size T), (Fact.eq _), (Fact.eq _), (Fact.eq (.int .i64 ((k + 1 : Nat) : Int))), (Fact.eq (.slice (some ad) (ps.length - (k + 1)) (cap - (k + 1))))]
          case hm => kernel_rfl
          case hB => kernel_rfl
          case hA => (intro vs; simp only [List.take_succ_cons, List.take_zero, putAll, if_true, Act.put, List.setIfInBounds_toArray, List.set_cons_zero, List.set_cons_succ]; exact rfl)
          case hstep =>
            intro vs
            refine And.intro (fun w hw hd => ?_) ?_
            · refine ite_yes rfl ?_
              simp only [Gives]
              go_simp
              exact ⟨Below.refl _ _, rfl, fun h => by cases h⟩
            refine And.intro (fun w hw hd => ?_) ?_
            · refine ite_yes rfl ?_
              simp only [Gives]
              go_simp
              exact ⟨Below.refl _ _, rfl, fun h => by cases h⟩
            refine And.intro (fun w hw hd => ?_) ?_
            · have d0 := hd 0 (by decide) rfl
              change vs 0 = _ at d0
              have d1 := hd 1 (by decide) rfl
              change vs 1 = _ at d1
              refine ite_yes rfl ?_
              simp only [Gives]
              refine gives_slice 50 (.tmp 113) none (some (.tmp 114)) rfl (.slice (some ⟨b, off, none⟩) ps.length cap) V1 none (some (.int .i64 (k : Int))) ?_ rfl ?_ (HV1.out _) ⟨Below.refl _ _, rfl, fun h => by cases h⟩
              all_goals (go_simp)
            refine And.intro (fun w hw hd => ?_) ?_
            · have d2 := hd 2 (by decide) rfl
              change vs 2 = _ at d2
              refine ite_yes rfl ?_
              simp only [Gives]
              go_simp
              refine (rows_walk V1 (ps.take k) w ⟨rows_any (HV2.out _ ((HT.out.kept (up_later HB.out hw)).1.rows (by omega))), fun p hp => (HT.out.2 p (List.mem_of_mem_take hp)).kept (up_later HB.out hw)⟩ (by rw [List.length_take]; omega) (fun p hp => by have := (shortB_ok HSh.out).2 p (List.mem_of_mem_take hp); omega)).mono ?_
              rintro e w7 ⟨u, rfl, ho, hb⟩
              rw [HTT.out] at ho
              obtain ⟨us, o1, o2⟩ := ho
              obtain ⟨A7, p7, rfl⟩ := own_formN o1
              exact ⟨_, rfl, hb, ⟨A7, p7, us, rfl, own_mono o1 hw.size, fun i u t hu ht => own_mono (o2 i u t hu ht) hw.size⟩, fun h => by cases h⟩
            refine And.intro (fun w hw hd => ?_) ?_
            · refine ite_yes rfl ?_
              simp only [Gives]
              go_simp
              exact ⟨Below.refl _ _, rfl, fun h => by cases h⟩
            refine And.intro (fun w hw hd => ?_) ?_
            · refine ite_yes rfl ?_
              simp only [Gives]
              go_simp
              exact ⟨Below.refl _ _, rfl, fun h => by cases h⟩
            refine And.intro (fun w hw hd => ?_) ?_
            · have d5 := hd 5 (by decide) rfl
              change vs 5 = _ at d5
              refine ite_yes rfl ?_
              simp only [Gives]
              go_simp
              (try rw [hWk])
              exact ⟨Below.refl _ _, rfl, fun h => by cases h⟩
            refine And.intro (fun w hw hd => ?_) ?_
            · have d4 := hd 4 (by decide) rfl
              change vs 4 = _ at d4
              have d6 := hd 6 (by decide) rfl
              change vs 6 = _ at d6
              refine ite_yes rfl ?_
              simp only [Gives]
              refine gives_slice 50 (.tmp 117) (some (.tmp 119)) none rfl (.slice (some ⟨b, off, none⟩) ps.length cap) _ (some (.int .i64 ((k + 1 : Nat) : Int))) none ?_ ?_ rfl (HA1.out _) ⟨Below.refl _ _, rfl, fun h => by cases h⟩
              all_goals (go_simp)
            exact trivial
          intro vs wt hw hd hne hlo
          have d0 := hd 0 (by decide)
          change vs 0 = _ at d0
          have d1 := hd 1 (by decide)
          change vs 1 = _ at d1
          have d2 := hd 2 (by decide)
          change vs 2 = _ at d2
          have d3 := hd 3 (by decide)
          obtain ⟨A9, p9, us9, d3, O9, E9⟩ := d3
          have d4 := hd 4 (by decide)
          change vs 4 = _ at d4
          have d5 := hd 5 (by decide)
          change vs 5 = _ at d5
          have d6 := hd 6 (by decide)
          change vs 6 = _ at d6
          have d7 := hd 7 (by decide)
          change vs 7 = _ at d7
          simp only [d0, d1, d4, d5, List.drop_succ_cons, List.drop_zero]
          clear hd hne hlo d0 d1 d4 d5
          simp only [Nat.zero_add, Nat.reduceAdd, d2, d3, d6, d7]
          have hszw := hw.size
          have hdl : (ps.drop (k + 1)).length = ps.length - (k + 1) := List.length_drop
          go_upto_region 16 with (at_builtin; refine wpList_append_own _ rfl (.tmp 116) (.tmp 120) 50 rfl w6.heap.size 25 i0 (.slice none 0 0) 1 24 Tryz.underlying50 hi0 hz0 hz1 hz2 rfl (by decide) _ T.length us9 rfl O9 ad (ps.length - (k + 1)) (cap - (k + 1)) ((ps.drop (k + 1)).map (·.1)) rfl (by rw [List.length_map, hdl, Nat.mul_one]) ?qc2 ?qc3 (by unfold maxLen; omega) (by omega) (by omega) ?_)
          case qc2 =>
            intro j u hj
            rw [List.getElem?_map, Option.map_eq_some_iff] at hj
            obtain ⟨x, hx, rfl⟩ := hj
            have hR := HA2.out _ ((HT.out.kept (up_later HB.out hw)).1.rows (by omega))
            obtain ⟨b2, off2, e2, hb2, hc2⟩ := hR.at rfl hx
            injection e2 with e2
            have := hc2 0 _ rfl
            rw [e2, addr_add]
            simpa using this
          case qc3 =>
            intro u hu
            obtain ⟨x, hx, rfl⟩ := List.mem_map.1 hu
            obtain ⟨A', c', h, _⟩ := (HT.out.2 x (List.mem_of_mem_drop hx)).form
            rw [h]
            rfl
          intro v' w8 hown hgrow hnil
          have O9k := O9
          rw [hTl] at O9k
          have hown2 : w8.ownsRow w6.heap.size 25 1 v' (T.length + (ps.length - (k + 1))) (us9 ++ (ps.drop (k + 1)).map (·.1)) := by
            rw [hTl, List.map_drop]
            exact hown
          have H8 := Lib.hid (up_later HB.out (Below.grown hw hgrow (by omega) fun g e => (O9k.lt g e).1))
          obtain ⟨rs, hrs, hrm⟩ := less_any (B := w6.heap.size) (w := w8) (v := v') (us := us9) (ts := T) (ps := ps.drop (k + 1)) (by rw [hdl]; exact hown2) (by have := O9.1; omega) (by omega) HTs.out
            (fun i u t hu ht => (E9 i u t hu ht).kept hgrow (own_apart (E9 i u t hu ht) O9k (by decide)))
            (fun p hp => (HT.out.2 p (List.mem_of_mem_drop hp)).kept H8.out)
          have HRs := Lib.hid hrs
          have hrm2 : rs.map (·.2) = (ps.map (·.2)).take k ++ (ps.map (·.2)).drop (k + 1) := by rw [hrm, ← HTT.out, List.map_take, List.map_drop]
          have HSub := Lib.hid (show (rs.map (·.2)).Sublist (ps.map (·.2)) by rw [hrm2]; exact less_sub _ k)
          obtain ⟨A8, p8, hform⟩ := own_formN hown2
          subst hform
          obtain ⟨N, hN⟩ : ∃ N, T.length + (ps.length - (k + 1)) = N := ⟨_, rfl⟩
          have hrl : rs.length = N := by
            have := congrArg List.length hrm
            rw [List.length_map, List.length_append, List.length_map, hdl, hN] at this
            exact this
          rw [hN] at HRs ⊢
          have hN1 : N + 1 = ps.length := by omega
          clear hrs hrm hrm2 hown hown2 hgrow hnil O9 O9k E9 hw hN hTl
          by_cases hN0 : N = 0
          · have hN0' : ((N : Int) == 0) = true := by rw [beq_iff_eq]; omega
            obtain ⟨rfl, rfl⟩ := short_one HS.out (by rw [List.length_map]; omega)
            clear hN0
            go_wp2_with fail
            refine (awake_any _).mono ?_
            rintro e w9 ⟨rfl, hb9⟩
            go_wp2_with fail
            go_ret
            exact ⟨rfl, up_later H8.out hb9⟩
          · have hN0' : ((N : Int) == 0) = false := by rw [beq_eq_false_iff_ne]; omega
            have hE2 := Lib.hid (txtE_less HSub.out HE.out (by omega))
            have HRr : Hid (TextsR w8 (.slice A8 N p8) rs) := Lib.hid ⟨HRs.out, by omega, fun p hp => by
              have := (txtE_ok hE2.out).2.1 p hp
              omega⟩
            go_wp2_with fail
            refine (rows_texts _ rs _ HRr.out).mono ?_
            rintro e w10 ⟨u10, q2, rfl, hq, hqm, hb10⟩
            have H10 := Lib.hid (up_later H8.out hb10)
            have HQ2 := Lib.hid hq
            have Hqe2 := Lib.hid ((txtE_same hqm).trans hE2.out)
            have Hqm2 := Lib.hid hqm
            obtain ⟨qA2, qc2, hu10, -, -⟩ := hq.1.form
            subst hu10
            clear hb10 hq hqm
            go_wp2_with fail
            refine (Repeat_any _ q2 _ HQ2.out).mono ?_
            rintro e w11 ⟨f2, m2, rfl, hok2, -, hb11⟩
            rw [Hqe2.out]
            have hok2 := hok2 Hqe2.out
            rw [Hqm2.out] at hok2
            have hmm := short_less HSub.out HS.out hok2
            have hmm' : (m2 : Int) ≤ (m : Int) := by omega
            have H11 := Lib.hid (up_later H10.out hb11)
            clear hb11 hok2
            go_wp2_with fail
            refine (awake_any _).mono ?_
            rintro e w9 ⟨rfl, hb9⟩
            go_wp2_with fail
            go_ret
            exact ⟨rfl, up_later H11.out hb9⟩
        · have ha1' : ¬ (r2 : Int) < (m : Int) := by omega
          by_cases ha2 : r2 = m
          · have ha2' : ((r2 : Int) == (m : Int)) = true := by rw [beq_iff_eq]; omega
            by_cases ha3 : r1 < f
            · have HNo := Lib.hid (short_no HS.out (txtE_five HE.out) (spell_ge (txtE_spell HE.out).1) (j := r1) (q := r2) (by omega) h15 (by omega))
              have ha3' : (r1 : Int) < (f : Int) := by omega
              clear ha2
              go_wp2_with fail
              refine (Decides_any _ ps r1 r2 _ (texts_few (HT.out.kept hB6) HSh.out) h15 h25).mono ?_
              rintro e w6 ⟨rfl, hb6⟩
              rw [HNo.out]
              have hB7 := up_later hB6 hb6
              clear hb6 hB6
              go_wp2_with fail
              have HB := Lib.hid hB7
              clear hB7
              obtain ⟨xk, hxk⟩ : ∃ x, ps[k]? = some x := ⟨_, List.getElem?_eq_getElem hkl⟩
              obtain ⟨b, off, rfl, -, -, -⟩ := HT.out.at hxk
              clear hxk
              obtain ⟨i0, hi0, hz0, hz1, hz2⟩ := info_parts texts_info
              obtain ⟨V1, hV1, hV2⟩ := rows_upto (P := Tryz.prog) (cells := pc) (sz := 1) (A := some ⟨b, off, none⟩) (cap := cap) (l := ps) (r := k) Tryz.underlying50 hi0 (by omega) HCap.out .i64
              obtain ⟨ad, hA1, hA2⟩ := rows_tail (P := Tryz.prog) (cells := pc) (sz := 1) (a := ⟨b, off, none⟩) (cap := cap) (l := ps) (r := k + 1) Tryz.underlying50 hi0 hz1 (by omega) .i64
              have HV1 := Lib.hid hV1
              have HV2 := Lib.hid hV2
              have HA1 := Lib.hid hA1
              have HA2 := Lib.hid hA2
              obtain ⟨T, hTT⟩ : ∃ T, (ps.take k).map (·.2) = T := ⟨_, rfl⟩
              have HTT := Lib.hid hTT
              have hTl : T.length = k := by rw [← hTT, List.length_map, List.length_take]; omega
              have HTs : Hid (∀ t ∈ T, t.length ≤ 1000) := Lib.hid fun t ht => by
                rw [← hTT] at ht
                obtain ⟨p, hp, rfl⟩ := List.mem_map.1 ht
                have := (shortB_ok HSh.out).2 p (List.mem_of_mem_take hp)
                omega
              have hWk : IntKind.i64.wrap ((k : Int) + 1) = ((k + 1 : Nat) : Int) := by rw [wrapK_in _ 3000 (by omega) (by omega)]; rfl
              clear hV1 hV2 hA1 hA2 hTT
              apply wp_region_by 8 [(Fact.eq _), (Fact.eq _), (Fact.eq V1), (Fact.texts w6.heap.size T), (Fact.eq _), (Fact.eq _), (Fact.eq (.int .i64 ((k + 1 : Nat) : Int))), (Fact.eq (.slice (some ad) (ps.length - (k + 1)) (cap - (k + 1))))]
              case hm => kernel_rfl
              case hB => kernel_rfl
              case hA => (intro vs; simp only [List.take_succ_cons, List.take_zero, putAll, if_true, Act.put, List.setIfInBounds_toArray, List.set_cons_zero, List.set_cons_succ]; exact rfl)
              case hstep =>
                intro vs
                refine And.intro (fun w hw hd => ?_) ?_
                · refine ite_yes rfl ?_
                  simp only [Gives]
                  go_simp
                  exact ⟨Below.refl _ _, rfl, fun h => by cases h⟩
                refine And.intro (fun w hw hd => ?_) ?_
                · refine ite_yes rfl ?_
                  simp only [Gives]
                  go_simp
                  exact ⟨Below.refl _ _, rfl, fun h => by cases h⟩
                refine And.intro (fun w hw hd => ?_) ?_
                · have d0 := hd 0 (by decide) rfl
                  change vs 0 = _ at d0
                  have d1 := hd 1 (by decide) rfl
                  change vs 1 = _ at d1
                  refine ite_yes rfl ?_
                  simp only [Gives]
                  refine gives_slice 50 (.tmp 113) none (some (.tmp 114)) rfl (.slice (some ⟨b, off, none⟩) ps.length cap) V1 none (some (.int .i64 (k : Int))) ?_ rfl ?_ (HV1.out _) ⟨Below.refl _ _, rfl, fun h => by cases h⟩
                  all_goals (go_simp)
                refine And.intro (fun w hw hd => ?_) ?_
                · have d2 := hd 2 (by decide) rfl
                  change vs 2 = _ at d2
                  refine ite_yes rfl ?_
                  simp only [Gives]
                  go_simp
                  refine (rows_walk V1 (ps.take k) w ⟨rows_any (HV2.out _ ((HT.out.kept (up_later HB.out hw)).1.rows (by omega))), fun p hp => (HT.out.2 p (List.mem_of_mem_take hp)).kept (up_later HB.out hw)⟩ (by rw [List.length_take]; omega) (fun p hp => by have := (shortB_ok HSh.out).2 p (List.mem_of_mem_take hp); omega)).mono ?_
                  rintro e w7 ⟨u, rfl, ho, hb⟩
                  rw [HTT.out] at ho
                  obtain ⟨us, o1, o2⟩ := ho
                  obtain ⟨A7, p7, rfl⟩ := own_formN o1
                  exact ⟨_, rfl, hb, ⟨A7, p7, us, rfl, own_mono o1 hw.size, fun i u t hu ht => own_mono (o2 i u t hu ht) hw.size⟩, fun h => by cases h⟩
                refine And.intro (fun w hw hd => ?_) ?_
                · refine ite_yes rfl ?_
                  simp only [Gives]
                  go_simp
                  exact ⟨Below.refl _ _, rfl, fun h => by cases h⟩
                refine And.intro (fun w hw hd => ?_) ?_
                · refine ite_yes rfl ?_
                  simp only [Gives]
                  go_simp
                  exact ⟨Below.refl _ _, rfl, fun h => by cases h⟩
                refine And.intro (fun w hw hd => ?_) ?_
                · have d5 := hd 5 (by decide) rfl
                  change vs 5 = _ at d5
                  refine ite_yes rfl ?_
                  simp only [Gives]
                  go_simp
                  (try rw [hWk])
                  exact ⟨Below.refl _ _, rfl, fun h => by cases h⟩
                refine And.intro (fun w hw hd => ?_) ?_
                · have d4 := hd 4 (by decide) rfl
                  change vs 4 = _ at d4
                  have d6 := hd 6 (by decide) rfl
                  change vs 6 = _ at d6
                  refine ite_yes rfl ?_
                  simp only [Gives]
                  refine gives_slice 50 (.tmp 117) (some (.tmp 119)) none rfl (.slice (some ⟨b, off, none⟩) ps.length cap) _ (some (.int .i64 ((k + 1 : Nat) : Int))) none ?_ ?_ rfl (HA1.out _) ⟨Below.refl _ _, rfl, fun h => by cases h⟩
                  all_goals (go_simp)
                exact trivial
              intro vs wt hw hd hne hlo
              have d0 := hd 0 (by decide)
              change vs 0 = _ at d0
              have d1 := hd 1 (by decide)
              change vs 1 = _ at d1
              have d2 := hd 2 (by decide)
              change vs 2 = _ at d2
              have d3 := hd 3 (by decide)
              obtain ⟨A9, p9, us9, d3, O9, E9⟩ := d3
              have d4 := hd 4 (by decide)
              change vs 4 = _ at d4
              have d5 := hd 5 (by decide)
              change vs 5 = _ at d5
              have d6 := hd 6 (by decide)
              change vs 6 = _ at d6
              have d7 := hd 7 (by decide)
              change vs 7 = _ at d7
              simp only [d0, d1, d4, d5, List.drop_succ_cons, List.drop_zero]
              clear hd hne hlo d0 d1 d4 d5
              simp only [Nat.zero_add, Nat.reduceAdd, d2, d3, d6, d7]
              have hszw := hw.size
              have hdl : (ps.drop (k + 1)).length = ps.length - (k + 1) := List.length_drop
              go_upto_region 16 with (at_builtin; refine wpList_append_own _ rfl (.tmp 116) (.tmp 120) 50 rfl w6.heap.size 25 i0 (.slice none 0 0) 1 24 Tryz.underlying50 hi0 hz0 hz1 hz2 rfl (by decide) _ T.length us9 rfl O9 ad (ps.length - (k + 1)) (cap - (k + 1)) ((ps.drop (k + 1)).map (·.1)) rfl (by rw [List.length_map, hdl, Nat.mul_one]) ?qc2 ?qc3 (by unfold maxLen; omega) (by omega) (by omega) ?_)
              case qc2 =>
                intro j u hj
                rw [List.getElem?_map, Option.map_eq_some_iff] at hj
                obtain ⟨x, hx, rfl⟩ := hj
                have hR := HA2.out _ ((HT.out.kept (up_later HB.out hw)).1.rows (by omega))
                obtain ⟨b2, off2, e2, hb2, hc2⟩ := hR.at rfl hx
                injection e2 with e2
                have := hc2 0 _ rfl
                rw [e2, addr_add]
                simpa using this
              case qc3 =>
                intro u hu
                obtain ⟨x, hx, rfl⟩ := List.mem_map.1 hu
                obtain ⟨A', c', h, _⟩ := (HT.out.2 x (List.mem_of_mem_drop hx)).form
                rw [h]
                rfl
              intro v' w8 hown hgrow hnil
              have O9k := O9
              rw [hTl] at O9k
              have hown2 : w8.ownsRow w6.heap.size 25 1 v' (T.length + (ps.length - (k + 1))) (us9 ++ (ps.drop (k + 1)).map (·.1)) := by
                rw [hTl, List.map_drop]
                exact hown
              have H8 := Lib.hid (up_later HB.out (Below.grown hw hgrow (by omega) fun g e => (O9k.lt g e).1))
              obtain ⟨rs, hrs, hrm⟩ := less_any (B := w6.heap.size) (w := w8) (v := v') (us := us9) (ts := T) (ps := ps.drop (k + 1)) (by rw [hdl]; exact hown2) (by have := O9.1; omega) (by omega) HTs.out
                (fun i u t hu ht => (E9 i u t hu ht).kept hgrow (own_apart (E9 i u t hu ht) O9k (by decide)))
                (fun p hp => (HT.out.2 p (List.mem_of_mem_drop hp)).kept H8.out)
              have HRs := Lib.hid hrs
              have hrm2 : rs.map (·.2) = (ps.map (·.2)).take k ++ (ps.map (·.2)).drop (k + 1) := by rw [hrm, ← HTT.out, List.map_take, List.map_drop]
              have HSub := Lib.hid (show (rs.map (·.2)).Sublist (ps.map (·.2)) by rw [hrm2]; exact less_sub _ k)
              obtain ⟨A8, p8, hform⟩ := own_formN hown2
              subst hform
              obtain ⟨N, hN⟩ : ∃ N, T.length + (ps.length - (k + 1)) = N := ⟨_, rfl⟩
              have hrl : rs.length = N := by
                have := congrArg List.length hrm
                rw [List.length_map, List.length_append, List.length_map, hdl, hN] at this
                exact this
              rw [hN] at HRs ⊢
              have hN1 : N + 1 = ps.length := by omega
              clear hrs hrm hrm2 hown hown2 hgrow hnil O9 O9k E9 hw hN hTl
              by_cases hN0 : N = 0
              · have hN0' : ((N : Int) == 0) = true := by rw [beq_iff_eq]; omega
                obtain ⟨rfl, rfl⟩ := short_one HS.out (by rw [List.length_map]; omega)
                clear hN0
                go_wp2_with fail
                refine (awake_any _).mono ?_
                rintro e w9 ⟨rfl, hb9⟩
                go_wp2_with fail
                go_ret
                exact ⟨rfl, up_later H8.out hb9⟩
              · have hN0' : ((N : Int) == 0) = false := by rw [beq_eq_false_iff_ne]; omega
                have hE2 := Lib.hid (txtE_less HSub.out HE.out (by omega))
                have HRr : Hid (TextsR w8 (.slice A8 N p8) rs) := Lib.hid ⟨HRs.out, by omega, fun p hp => by
                  have := (txtE_ok hE2.out).2.1 p hp
                  omega⟩
                go_wp2_with fail
                refine (rows_texts _ rs _ HRr.out).mono ?_
                rintro e w10 ⟨u10, q2, rfl, hq, hqm, hb10⟩
                have H10 := Lib.hid (up_later H8.out hb10)
                have HQ2 := Lib.hid hq
                have Hqe2 := Lib.hid ((txtE_same hqm).trans hE2.out)
                have Hqm2 := Lib.hid hqm
                obtain ⟨qA2, qc2, hu10, -, -⟩ := hq.1.form
                subst hu10
                clear hb10 hq hqm
                go_wp2_with fail
                refine (Repeat_any _ q2 _ HQ2.out).mono ?_
                rintro e w11 ⟨f2, m2, rfl, hok2, -, hb11⟩
                rw [Hqe2.out]
                have hok2 := hok2 Hqe2.out
                rw [Hqm2.out] at hok2
                have hmm := short_less HSub.out HS.out hok2
                have hmm' : (m2 : Int) ≤ (m : Int) := by omega
                have H11 := Lib.hid (up_later H10.out hb11)
                clear hb11 hok2
                go_wp2_with fail
                refine (awake_any _).mono ?_
                rintro e w9 ⟨rfl, hb9⟩
                go_wp2_with fail
                go_ret
                exact ⟨rfl, up_later H11.out hb9⟩
            · have ha3' : ¬ (r1 : Int) < (f : Int) := by omega
              clear ha2
              go_wp2_with fail
              have HB := Lib.hid hB6
              clear hB6
              obtain ⟨xk, hxk⟩ : ∃ x, ps[k]? = some x := ⟨_, List.getElem?_eq_getElem hkl⟩
              obtain ⟨b, off, rfl, -, -, -⟩ := HT.out.at hxk
              clear hxk
              obtain ⟨i0, hi0, hz0, hz1, hz2⟩ := info_parts texts_info
              obtain ⟨V1, hV1, hV2⟩ := rows_upto (P := Tryz.prog) (cells := pc) (sz := 1) (A := some ⟨b, off, none⟩) (cap := cap) (l := ps) (r := k) Tryz.underlying50 hi0 (by omega) HCap.out .i64
              obtain ⟨ad, hA1, hA2⟩ := rows_tail (P := Tryz.prog) (cells := pc) (sz := 1) (a := ⟨b, off, none⟩) (cap := cap) (l := ps) (r := k + 1) Tryz.underlying50 hi0 hz1 (by omega) .i64
              have HV1 := Lib.hid hV1
              have HV2 := Lib.hid hV2
              have HA1 := Lib.hid hA1
              have HA2 := Lib.hid hA2
              obtain ⟨T, hTT⟩ : ∃ T, (ps.take k).map (·.2) = T := ⟨_, rfl⟩
              have HTT := Lib.hid hTT
              have hTl : T.length = k := by rw [← hTT, List.length_map, List.length_take]; omega
              have HTs : Hid (∀ t ∈ T, t.length ≤ 1000) := Lib.hid fun t ht => by
                rw [← hTT] at ht
                obtain ⟨p, hp, rfl⟩ := List.mem_map.1 ht
                have := (shortB_ok HSh.out).2 p (List.mem_of_mem_take hp)
                omega
              have hWk : IntKind.i64.wrap ((k : Int) + 1) = ((k + 1 : Nat) : Int) := by rw [wrapK_in _ 3000 (by omega) (by omega)]; rfl
              clear hV1 hV2 hA1 hA2 hTT
              apply wp_region_by 8 [(Fact.eq _), (Fact.eq _), (Fact.eq V1), (Fact.texts wr.heap.size T), (Fact.eq _), (Fact.eq _), (Fact.eq (.int .i64 ((k + 1 : Nat) : Int))), (Fact.eq (.slice (some ad) (ps.length - (k + 1)) (cap - (k + 1))))]
              case hm => kernel_rfl
              case hB => kernel_rfl
              case hA => (intro vs; simp only [List.take_succ_cons, List.take_zero, putAll, if_true, Act.put, List.setIfInBounds_toArray, List.set_cons_zero, List.set_cons_succ]; exact rfl)
              case hstep =>
                intro vs
                refine And.intro (fun w hw hd => ?_) ?_
                · refine ite_yes rfl ?_
                  simp only [Gives]
                  go_simp
                  exact ⟨Below.refl _ _, rfl, fun h => by cases h⟩
                refine And.intro (fun w hw hd => ?_) ?_
                · refine ite_yes rfl ?_
                  simp only [Gives]
                  go_simp
                  exact ⟨Below.refl _ _, rfl, fun h => by cases h⟩
                refine And.intro (fun w hw hd => ?_) ?_
                · have d0 := hd 0 (by decide) rfl
                  change vs 0 = _ at d0
                  have d1 := hd 1 (by decide) rfl
                  change vs 1 = _ at d1
                  refine ite_yes rfl ?_
                  simp only [Gives]
                  refine gives_slice 50 (.tmp 113) none (some (.tmp 114)) rfl (.slice (some ⟨b, off, none⟩) ps.length cap) V1 none (some (.int .i64 (k : Int))) ?_ rfl ?_ (HV1.out _) ⟨Below.refl _ _, rfl, fun h => by cases h⟩
                  all_goals (go_simp)
                refine And.intro (fun w hw hd => ?_) ?_
                · have d2 := hd 2 (by decide) rfl
                  change vs 2 = _ at d2
                  refine ite_yes rfl ?_
                  simp only [Gives]
                  go_simp
                  refine (rows_walk V1 (ps.take k) w ⟨rows_any (HV2.out _ ((HT.out.kept (up_later HB.out hw)).1.rows (by omega))), fun p hp => (HT.out.2 p (List.mem_of_mem_take hp)).kept (up_later HB.out hw)⟩ (by rw [List.length_take]; omega) (fun p hp => by have := (shortB_ok HSh.out).2 p (List.mem_of_mem_take hp); omega)).mono ?_
                  rintro e w7 ⟨u, rfl, ho, hb⟩
                  rw [HTT.out] at ho
                  obtain ⟨us, o1, o2⟩ := ho
                  obtain ⟨A7, p7, rfl⟩ := own_formN o1
                  exact ⟨_, rfl, hb, ⟨A7, p7, us, rfl, own_mono o1 hw.size, fun i u t hu ht => own_mono (o2 i u t hu ht) hw.size⟩, fun h => by cases h⟩
                refine And.intro (fun w hw hd => ?_) ?_
                · refine ite_yes rfl ?_
                  simp only [Gives]
                  go_simp
                  exact ⟨Below.refl _ _, rfl, fun h => by cases h⟩
                refine And.intro (fun w hw hd => ?_) ?_
                · refine ite_yes rfl ?_
                  simp only [Gives]
                  go_simp
                  exact ⟨Below.refl _ _, rfl, fun h => by cases h⟩
                refine And.intro (fun w hw hd => ?_) ?_
                · have d5 := hd 5 (by decide) rfl
                  change vs 5 = _ at d5
                  refine ite_yes rfl ?_
                  simp only [Gives]
                  go_simp
                  (try rw [hWk])
                  exact ⟨Below.refl _ _, rfl, fun h => by cases h⟩
                refine And.intro (fun w hw hd => ?_) ?_
                · have d4 := hd 4 (by decide) rfl
                  change vs 4 = _ at d4
                  have d6 := hd 6 (by decide) rfl
                  change vs 6 = _ at d6
                  refine ite_yes rfl ?_
                  simp only [Gives]
                  refine gives_slice 50 (.tmp 117) (some (.tmp 119)) none rfl (.slice (some ⟨b, off, none⟩) ps.length cap) _ (some (.int .i64 ((k + 1 : Nat) : Int))) none ?_ ?_ rfl (HA1.out _) ⟨Below.refl _ _, rfl, fun h => by cases h⟩
                  all_goals (go_simp)
                exact trivial
              intro vs wt hw hd hne hlo
              have d0 := hd 0 (by decide)
              change vs 0 = _ at d0
              have d1 := hd 1 (by decide)
              change vs 1 = _ at d1
              have d2 := hd 2 (by decide)
              change vs 2 = _ at d2
              have d3 := hd 3 (by decide)
              obtain ⟨A9, p9, us9, d3, O9, E9⟩ := d3
              have d4 := hd 4 (by decide)
              change vs 4 = _ at d4
              have d5 := hd 5 (by decide)
              change vs 5 = _ at d5
              have d6 := hd 6 (by decide)
              change vs 6 = _ at d6
              have d7 := hd 7 (by decide)
              change vs 7 = _ at d7
              simp only [d0, d1, d4, d5, List.drop_succ_cons, List.drop_zero]
              clear hd hne hlo d0 d1 d4 d5
              simp only [Nat.zero_add, Nat.reduceAdd, d2, d3, d6, d7]
              have hszw := hw.size
              have hdl : (ps.drop (k + 1)).length = ps.length - (k + 1) := List.length_drop
              go_upto_region 16 with (at_builtin; refine wpList_append_own _ rfl (.tmp 116) (.tmp 120) 50 rfl wr.heap.size 25 i0 (.slice none 0 0) 1 24 Tryz.underlying50 hi0 hz0 hz1 hz2 rfl (by decide) _ T.length us9 rfl O9 ad (ps.length - (k + 1)) (cap - (k + 1)) ((ps.drop (k + 1)).map (·.1)) rfl (by rw [List.length_map, hdl, Nat.mul_one]) ?qc2 ?qc3 (by unfold maxLen; omega) (by omega) (by omega) ?_)
              case qc2 =>
                intro j u hj
                rw [List.getElem?_map, Option.map_eq_some_iff] at hj
                obtain ⟨x, hx, rfl⟩ := hj
                have hR := HA2.out _ ((HT.out.kept (up_later HB.out hw)).1.rows (by omega))
                obtain ⟨b2, off2, e2, hb2, hc2⟩ := hR.at rfl hx
                injection e2 with e2
                have := hc2 0 _ rfl
                rw [e2, addr_add]
                simpa using this
              case qc3 =>
                intro u hu
                obtain ⟨x, hx, rfl⟩ := List.mem_map.1 hu
                obtain ⟨A', c', h, _⟩ := (HT.out.2 x (List.mem_of_mem_drop hx)).form
                rw [h]
                rfl
              intro v' w8 hown hgrow hnil
              have O9k := O9
              rw [hTl] at O9k
              have hown2 : w8.ownsRow wr.heap.size 25 1 v' (T.length + (ps.length - (k + 1))) (us9 ++ (ps.drop (k + 1)).map (·.1)) := by
                rw [hTl, List.map_drop]
                exact hown
              have H8 := Lib.hid (up_later HB.out (Below.grown hw hgrow (by omega) fun g e => (O9k.lt g e).1))
              obtain ⟨rs, hrs, hrm⟩ := less_any (B := wr.heap.size) (w := w8) (v := v') (us := us9) (ts := T) (ps := ps.drop (k + 1)) (by rw [hdl]; exact hown2) (by have := O9.1; omega) (by omega) HTs.out
                (fun i u t hu ht => (E9 i u t hu ht).kept hgrow (own_apart (E9 i u t hu ht) O9k (by decide)))
                (fun p hp => (HT.out.2 p (List.mem_of_mem_drop hp)).kept H8.out)
              have HRs := Lib.hid hrs
              have hrm2 : rs.map (·.2) = (ps.map (·.2)).take k ++ (ps.map (·.2)).drop (k + 1) := by rw [hrm, ← HTT.out, List.map_take, List.map_drop]
              have HSub := Lib.hid (show (rs.map (·.2)).Sublist (ps.map (·.2)) by rw [hrm2]; exact less_sub _ k)
              obtain ⟨A8, p8, hform⟩ := own_formN hown2
              subst hform
              obtain ⟨N, hN⟩ : ∃ N, T.length + (ps.length - (k + 1)) = N := ⟨_, rfl⟩
              have hrl : rs.length = N := by
                have := congrArg List.length hrm
                rw [List.length_map, List.length_append, List.length_map, hdl, hN] at this
                exact this
              rw [hN] at HRs ⊢
              have hN1 : N + 1 = ps.length := by omega
              clear hrs hrm hrm2 hown hown2 hgrow hnil O9 O9k E9 hw hN hTl
              by_cases hN0 : N = 0
              · have hN0' : ((N : Int) == 0) = true := by rw [beq_iff_eq]; omega
                obtain ⟨rfl, rfl⟩ := short_one HS.out (by rw [List.length_map]; omega)
                clear hN0
                go_wp2_with fail
                refine (awake_any _).mono ?_
                rintro e w9 ⟨rfl, hb9⟩
                go_wp2_with fail
                go_ret
                exact ⟨rfl, up_later H8.out hb9⟩
              · have hN0' : ((N : Int) == 0) = false := by rw [beq_eq_false_iff_ne]; omega
                have hE2 := Lib.hid (txtE_less HSub.out HE.out (by omega))
                have HRr : Hid (TextsR w8 (.slice A8 N p8) rs) := Lib.hid ⟨HRs.out, by omega, fun p hp => by
                  have := (txtE_ok hE2.out).2.1 p hp
                  omega⟩
                go_wp2_with fail
                refine (rows_texts _ rs _ HRr.out).mono ?_
                rintro e w10 ⟨u10, q2, rfl, hq, hqm, hb10⟩
                have H10 := Lib.hid (up_later H8.out hb10)
                have HQ2 := Lib.hid hq
                have Hqe2 := Lib.hid ((txtE_same hqm).trans hE2.out)
                have Hqm2 := Lib.hid hqm
                obtain ⟨qA2, qc2, hu10, -, -⟩ := hq.1.form
                subst hu10
                clear hb10 hq hqm
                go_wp2_with fail
                refine (Repeat_any _ q2 _ HQ2.out).mono ?_
                rintro e w11 ⟨f2, m2, rfl, hok2, -, hb11⟩
                rw [Hqe2.out]
                have hok2 := hok2 Hqe2.out
                rw [Hqm2.out] at hok2
                have hmm := short_less HSub.out HS.out hok2
                have hmm' : (m2 : Int) ≤ (m : Int) := by omega
                have H11 := Lib.hid (up_later H10.out hb11)
                clear hb11 hok2
                go_wp2_with fail
                refine (awake_any _).mono ?_
                rintro e w9 ⟨rfl, hb9⟩
                go_wp2_with fail
                go_ret
                exact ⟨rfl, up_later H11.out hb9⟩
          · have ha2' : ((r2 : Int) == (m : Int)) = false := by rw [beq_eq_false_iff_ne]; omega
            go_wp2_with fail
            have HB := Lib.hid hB6
            clear hB6
            obtain ⟨xk, hxk⟩ : ∃ x, ps[k]? = some x := ⟨_, List.getElem?_eq_getElem hkl⟩
            obtain ⟨b, off, rfl, -, -, -⟩ := HT.out.at hxk
            clear hxk
            obtain ⟨i0, hi0, hz0, hz1, hz2⟩ := info_parts texts_info
            obtain ⟨V1, hV1, hV2⟩ := rows_upto (P := Tryz.prog) (cells := pc) (sz := 1) (A := some ⟨b, off, none⟩) (cap := cap) (l := ps) (r := k) Tryz.underlying50 hi0 (by omega) HCap.out .i64
            obtain ⟨ad, hA1, hA2⟩ := rows_tail (P := Tryz.prog) (cells := pc) (sz := 1) (a := ⟨b, off, none⟩) (cap := cap) (l := ps) (r := k + 1) Tryz.underlying50 hi0 hz1 (by omega) .i64
            have HV1 := Lib.hid hV1
            have HV2 := Lib.hid hV2
            have HA1 := Lib.hid hA1
            have HA2 := Lib.hid hA2
            obtain ⟨T, hTT⟩ : ∃ T, (ps.take k).map (·.2) = T := ⟨_, rfl⟩
            have HTT := Lib.hid hTT
            have hTl : T.length = k := by rw [← hTT, List.length_map, List.length_take]; omega
            have HTs : Hid (∀ t ∈ T, t.length ≤ 1000) := Lib.hid fun t ht => by
              rw [← hTT] at ht
              obtain ⟨p, hp, rfl⟩ := List.mem_map.1 ht
              have := (shortB_ok HSh.out).2 p (List.mem_of_mem_take hp)
              omega
            have hWk : IntKind.i64.wrap ((k : Int) + 1) = ((k + 1 : Nat) : Int) := by rw [wrapK_in _ 3000 (by omega) (by omega)]; rfl
            clear hV1 hV2 hA1 hA2 hTT
            apply wp_region_by 8 [(Fact.eq _), (Fact.eq _), (Fact.eq V1), (Fact.texts wr.heap.size T), (Fact.eq _), (Fact.eq _), (Fact.eq (.int .i64 ((k + 1 : Nat) : Int))), (Fact.eq (.slice (some ad) (ps.length - (k + 1)) (cap - (k + 1))))]
            case hm => kernel_rfl
            case hB => kernel_rfl
            case hA => (intro vs; simp only [List.take_succ_cons, List.take_zero, putAll, if_true, Act.put, List.setIfInBounds_toArray, List.set_cons_zero, List.set_cons_succ]; exact rfl)
            case hstep =>
              intro vs
              refine And.intro (fun w hw hd => ?_) ?_
              · refine ite_yes rfl ?_
                simp only [Gives]
                go_simp
                exact ⟨Below.refl _ _, rfl, fun h => by cases h⟩
              refine And.intro (fun w hw hd => ?_) ?_
              · refine ite_yes rfl ?_
                simp only [Gives]
                go_simp
                exact ⟨Below.refl _ _, rfl, fun h => by cases h⟩
              refine And.intro (fun w hw hd => ?_) ?_
              · have d0 := hd 0 (by decide) rfl
                change vs 0 = _ at d0
                have d1 := hd 1 (by decide) rfl
                change vs 1 = _ at d1
                refine ite_yes rfl ?_
                simp only [Gives]
                refine gives_slice 50 (.tmp 113) none (some (.tmp 114)) rfl (.slice (some ⟨b, off, none⟩) ps.length cap) V1 none (some (.int .i64 (k : Int))) ?_ rfl ?_ (HV1.out _) ⟨Below.refl _ _, rfl, fun h => by cases h⟩
                all_goals (go_simp)
              refine And.intro (fun w hw hd => ?_) ?_
              · have d2 := hd 2 (by decide) rfl
                change vs 2 = _ at d2
                refine ite_yes rfl ?_
                simp only [Gives]
                go_simp
                refine (rows_walk V1 (ps.take k) w ⟨rows_any (HV2.out _ ((HT.out.kept (up_later HB.out hw)).1.rows (by omega))), fun p hp => (HT.out.2 p (List.mem_of_mem_take hp)).kept (up_later HB.out hw)⟩ (by rw [List.length_take]; omega) (fun p hp => by have := (shortB_ok HSh.out).2 p (List.mem_of_mem_take hp); omega)).mono ?_
                rintro e w7 ⟨u, rfl, ho, hb⟩
                rw [HTT.out] at ho
                obtain ⟨us, o1, o2⟩ := ho
                obtain ⟨A7, p7, rfl⟩ := own_formN o1
                exact ⟨_, rfl, hb, ⟨A7, p7, us, rfl, own_mono o1 hw.size, fun i u t hu ht => own_mono (o2 i u t hu ht) hw.size⟩, fun h => by cases h⟩
              refine And.intro (fun w hw hd => ?_) ?_
              · refine ite_yes rfl ?_
                simp only [Gives]
                go_simp
                exact ⟨Below.refl _ _, rfl, fun h => by cases h⟩
              refine And.intro (fun w hw hd => ?_) ?_
              · refine ite_yes rfl ?_
                simp only [Gives]
                go_simp
                exact ⟨Below.refl _ _, rfl, fun h => by cases h⟩
              refine And.intro (fun w hw hd => ?_) ?_
              · have d5 := hd 5 (by decide) rfl
                change vs 5 = _ at d5
                refine ite_yes rfl ?_
                simp only [Gives]
                go_simp
                (try rw [hWk])
                exact ⟨Below.refl _ _, rfl, fun h => by cases h⟩
              refine And.intro (fun w hw hd => ?_) ?_
              · have d4 := hd 4 (by decide) rfl
                change vs 4 = _ at d4
                have d6 := hd 6 (by decide) rfl
                change vs 6 = _ at d6
                refine ite_yes rfl ?_
                simp only [Gives]
                refine gives_slice 50 (.tmp 117) (some (.tmp 119)) none rfl (.slice (some ⟨b, off, none⟩) ps.length cap) _ (some (.int .i64 ((k + 1 : Nat) : Int))) none ?_ ?_ rfl (HA1.out _) ⟨Below.refl _ _, rfl, fun h => by cases h⟩
                all_goals (go_simp)
              exact trivial
            intro vs wt hw hd hne hlo
            have d0 := hd 0 (by decide)
            change vs 0 = _ at d0
            have d1 := hd 1 (by decide)
            change vs 1 = _ at d1
            have d2 := hd 2 (by decide)
            change vs 2 = _ at d2
            have d3 := hd 3 (by decide)
            obtain ⟨A9, p9, us9, d3, O9, E9⟩ := d3
            have d4 := hd 4 (by decide)
            change vs 4 = _ at d4
            have d5 := hd 5 (by decide)
            change vs 5 = _ at d5
            have d6 := hd 6 (by decide)
            change vs 6 = _ at d6
            have d7 := hd 7 (by decide)
            change vs 7 = _ at d7
            simp only [d0, d1, d4, d5, List.drop_succ_cons, List.drop_zero]
            clear hd hne hlo d0 d1 d4 d5
            simp only [Nat.zero_add, Nat.reduceAdd, d2, d3, d6, d7]
            have hszw := hw.size
            have hdl : (ps.drop (k + 1)).length = ps.length - (k + 1) := List.length_drop
            go_upto_region 16 with (at_builtin; refine wpList_append_own _ rfl (.tmp 116) (.tmp 120) 50 rfl wr.heap.size 25 i0 (.slice none 0 0) 1 24 Tryz.underlying50 hi0 hz0 hz1 hz2 rfl (by decide) _ T.length us9 rfl O9 ad (ps.length - (k + 1)) (cap - (k + 1)) ((ps.drop (k + 1)).map (·.1)) rfl (by rw [List.length_map, hdl, Nat.mul_one]) ?qc2 ?qc3 (by unfold maxLen; omega) (by omega) (by omega) ?_)
            case qc2 =>
              intro j u hj
              rw [List.getElem?_map, Option.map_eq_some_iff] at hj
              obtain ⟨x, hx, rfl⟩ := hj
              have hR := HA2.out _ ((HT.out.kept (up_later HB.out hw)).1.rows (by omega))
              obtain ⟨b2, off2, e2, hb2, hc2⟩ := hR.at rfl hx
              injection e2 with e2
              have := hc2 0 _ rfl
              rw [e2, addr_add]
              simpa using this
            case qc3 =>
              intro u hu
              obtain ⟨x, hx, rfl⟩ := List.mem_map.1 hu
              obtain ⟨A', c', h, _⟩ := (HT.out.2 x (List.mem_of_mem_drop hx)).form
              rw [h]
              rfl
            intro v' w8 hown hgrow hnil
            have O9k := O9
            rw [hTl] at O9k
            have hown2 : w8.ownsRow wr.heap.size 25 1 v' (T.length + (ps.length - (k + 1))) (us9 ++ (ps.drop (k + 1)).map (·.1)) := by
              rw [hTl, List.map_drop]
              exact hown
            have H8 := Lib.hid (up_later HB.out (Below.grown hw hgrow (by omega) fun g e => (O9k.lt g e).1))
            obtain ⟨rs, hrs, hrm⟩ := less_any (B := wr.heap.size) (w := w8) (v := v') (us := us9) (ts := T) (ps := ps.drop (k + 1)) (by rw [hdl]; exact hown2) (by have := O9.1; omega) (by omega) HTs.out
              (fun i u t hu ht => (E9 i u t hu ht).kept hgrow (own_apart (E9 i u t hu ht) O9k (by decide)))
              (fun p hp => (HT.out.2 p (List.mem_of_mem_drop hp)).kept H8.out)
            have HRs := Lib.hid hrs
            have hrm2 : rs.map (·.2) = (ps.map (·.2)).take k ++ (ps.map (·.2)).drop (k + 1) := by rw [hrm, ← HTT.out, List.map_take, List.map_drop]
            have HSub := Lib.hid (show (rs.map (·.2)).Sublist (ps.map (·.2)) by rw [hrm2]; exact less_sub _ k)
            obtain ⟨A8, p8, hform⟩ := own_formN hown2
            subst hform
            obtain ⟨N, hN⟩ : ∃ N, T.length + (ps.length - (k + 1)) = N := ⟨_, rfl⟩
            have hrl : rs.length = N := by
              have := congrArg List.length hrm
              rw [List.length_map, List.length_append, List.length_map, hdl, hN] at this
              exact this
            rw [hN] at HRs ⊢
            have hN1 : N + 1 = ps.length := by omega
            clear hrs hrm hrm2 hown hown2 hgrow hnil O9 O9k E9 hw hN hTl
            by_cases hN0 : N = 0
            · have hN0' : ((N : Int) == 0) = true := by rw [beq_iff_eq]; omega
              obtain ⟨rfl, rfl⟩ := short_one HS.out (by rw [List.length_map]; omega)
              clear hN0
              go_wp2_with fail
              refine (awake_any _).mono ?_
              rintro e w9 ⟨rfl, hb9⟩
              go_wp2_with fail
              go_ret
              exact ⟨rfl, up_later H8.out hb9⟩
            · have hN0' : ((N : Int) == 0) = false := by rw [beq_eq_false_iff_ne]; omega
              have hE2 := Lib.hid (txtE_less HSub.out HE.out (by omega))
              have HRr : Hid (TextsR w8 (.slice A8 N p8) rs) := Lib.hid ⟨HRs.out, by omega, fun p hp => by
                have := (txtE_ok hE2.out).2.1 p hp
                omega⟩
              go_wp2_with fail
              refine (rows_texts _ rs _ HRr.out).mono ?_
              rintro e w10 ⟨u10, q2, rfl, hq, hqm, hb10⟩
              have H10 := Lib.hid (up_later H8.out hb10)
              have HQ2 := Lib.hid hq
              have Hqe2 := Lib.hid ((txtE_same hqm).trans hE2.out)
              have Hqm2 := Lib.hid hqm
              obtain ⟨qA2, qc2, hu10, -, -⟩ := hq.1.form
              subst hu10
              clear hb10 hq hqm
              go_wp2_with fail
              refine (Repeat_any _ q2 _ HQ2.out).mono ?_
              rintro e w11 ⟨f2, m2, rfl, hok2, -, hb11⟩
              rw [Hqe2.out]
              have hok2 := hok2 Hqe2.out
              rw [Hqm2.out] at hok2
              have hmm := short_less HSub.out HS.out hok2
              have hmm' : (m2 : Int) ≤ (m : Int) := by omega
              have H11 := Lib.hid (up_later H10.out hb11)
              clear hb11 hok2
              go_wp2_with fail
              refine (awake_any _).mono ?_
              rintro e w9 ⟨rfl, hb9⟩
              go_wp2_with fail
              go_ret
              exact ⟨rfl, up_later H11.out hb9⟩
end Go.Proofs.YtonekgefegfapaaGreat

namespace Go.Proofs.YtonekgefegfapaaGreat
open Go.ChangeShapes Go.WideShapes Go.ChangeAt Go.RowKit

theorem und24 : Tryz.prog.underlying 24 = some (.struct (Tryz.prog.fieldsOf 24)) := by kernel_rfl
section
variable {H : Type} {enc : TypeId × Value → H} {W : World} {base : Nat} {spare : Nat → Bool} {held : Bool}
theorem open_str {fuel : Nat} {cs : List Value} {x : DataW H × List MemPlace} (h : DataW.trod enc Tryz.prog W base spare held fuel 9 cs = some x) : ∃ s : ByteArray, cs = sc s ∧ True := by
  obtain ⟨z, hz, _⟩ := DataW.trod_string Tryz.underlying9 h
  exact ⟨z, hz, trivial⟩
theorem open_words {fuel : Nat} {cs : List Value} {x : DataW H × List MemPlace} (h : DataW.trod enc Tryz.prog W base spare held fuel 22 cs = some x) : ∃ v l, cs = [v] ∧ RowsAny W v 1 sc l := by
  obtain ⟨v, l, e, r, _⟩ := open_rows (e := 9) (sz := 1) (cells := sc) (p := fun _ => True) (by kernel_rfl) (by kernel_rfl) (by omega) (fun _ _ _ h => open_str h) h
  exact ⟨v, l, e, r⟩
theorem open_code {fuel : Nat} {cs : List Value} {x : DataW H × List MemPlace} (h : DataW.trod enc Tryz.prog W base spare held fuel 24 cs = some x) : ∃ v l, cs = [v] ∧ RowsAny W v 1 sc l := by
  have hf : (Tryz.prog.fieldsOf 24).toList.map (fun f => (f.type, f.offset)) = [(22, 0)] := by kernel_rfl
  have hc : Tryz.prog.cellsOf 24 = 1 := by kernel_rfl
  obtain ⟨xs, m, _, _, hlen, hxs, hel⟩ := DataW.trod_struct und24 h
  generalize Tryz.prog.fieldsOf 24 = fs at hf hxs hel
  obtain ⟨fs⟩ := fs
  rcases fs with _ | ⟨f0, _ | ⟨f1, r⟩⟩ <;> simp at hf
  obtain ⟨t0, o0⟩ := hf
  have g0 := hel 0 f0 rfl
  have k22 : Tryz.prog.cellsOf 22 = 1 := by kernel_rfl
  rw [t0, o0, k22] at g0
  have hx1 : xs.length = 1 := by simpa using hxs
  obtain ⟨y0, hy0⟩ : ∃ y, xs[0]? = some y := ⟨_, List.getElem?_eq_getElem (by omega)⟩
  rw [hy0] at g0
  obtain ⟨v, l, e, r⟩ := open_words g0
  refine ⟨v, l, ?_, r⟩
  rw [hc] at hlen
  rcases cs with _ | ⟨a, _ | ⟨b, r⟩⟩ <;> simp at hlen
  exact e
theorem open_texts {fuel : Nat} {cs : List Value} {x : DataW H × List MemPlace} (h : DataW.trod enc Tryz.prog W base spare held fuel 50 cs = some x) : ∃ v ps, cs = [v] ∧ TextsAny W v ps := by
  obtain ⟨v, l, e, r, hp⟩ := open_rows (e := 25) (sz := 1) (cells := pc) (p := fun p => RowsAny W p.1 1 ic p.2) (by kernel_rfl) (by kernel_rfl) (by omega) (fun _ _ _ h => by
    obtain ⟨v, l, e, r⟩ := open_list h
    exact ⟨(v, l), e, r⟩) h
  exact ⟨v, l, e, r, hp⟩
end
end Go.Proofs.YtonekgefegfapaaGreat

namespace Go.Proofs.YtonekgefegfapaaGreat
open Go.ChangeShapes Go.WideShapes Go.ChangeAt Go.RowKit

set_option maxRecDepth 100000 in
theorem flashDecides_lifted (os : Os) (started : os.Started) (H : Type) (enc : TypeId × Value → H) :
    ReturnsInHanded {} Tryz.checked os 15 .any (Rows.flashDecidesSpec.pre6 enc Tryz.prog Tryz.f15 Rows.flashDecidesRow.domain false) (Rows.flashDecidesSpec.post enc Tryz.prog Tryz.f15 false true false false) := by
  refine returnsInHanded_of_change (C := Tryz.checked) own_knob started (by kernel_rfl) Tryz.func15
    (ChangeSpec.witness6 (enc := enc) (C := Tryz.checked) false ⟨#[], #[.slice Option.none 0 0, .int .u8 0, .int .u8 0, .int .u8 0], []⟩ 8 (by kernel_rfl) (by kernel_rfl) (by kernel_rfl) (by kernel_rfl)) ?_
  intro W base args ds gs before hval0 hW hcnd _
  have hval : ∀ (j : Nat) t v, Tryz.f15.params[j]? = some t → args[j]? = some v → Value.okWide Tryz.prog W .any base t v := hval0
  have hW' := hW
  obtain ⟨p, q, hA0, hV, rfl, hfz, hnd⟩ := hW
  have hA : DataW.TrodAll enc Tryz.prog W 0 (fun _ => true) true Tryz.f15.params.toList args.toList ds p := hA0
  rw [Tryz.params15] at hA hval
  have hlt : ∀ x ∈ p, x.block < W.heap.size := fun x hx => hW'.lt x (List.mem_append_left _ hx)
  have hAk := hA
  obtain ⟨v0, vs0, d0, ds0, p0, q0, hargs, rfl, rfl, h0, r0⟩ := trodAll_cons hA
  obtain ⟨v1, vs1, d1, ds1, p1, q1, rfl, rfl, rfl, h1, r1⟩ := trodAll_cons r0
  obtain ⟨v2, vs2, d2, ds2, p2, q2, rfl, rfl, rfl, h2, r2⟩ := trodAll_cons r1
  obtain ⟨v3, vs3, d3, ds3, p3, q3, rfl, rfl, rfl, h3, r3⟩ := trodAll_cons r2
  obtain ⟨rfl, rfl, rfl⟩ := trodAll_nil r3
  obtain rfl : args = #[v0, v1, v2, v3] := by cases args; simp_all
  obtain ⟨rfl, rfl⟩ := trodVars_none hV
  obtain ⟨b0, len0, cap0, rfl⟩ := okWide_slice Tryz.underlying50 (hval 0 50 v0 rfl rfl)
  obtain ⟨fuel0, h0⟩ := h0
  obtain ⟨v, l0, e0, hl0⟩ := open_texts h0
  obtain rfl : v = .slice b0 len0 cap0 := by
    have h : [Value.slice b0 len0 cap0] = [v] := e0
    injection h with h _
    exact h.symm
  obtain ⟨a1, rfl, rfl, rfl, w1⟩ := open_int Tryz.underlying5 (hval 1 5 v1 rfl rfl) h1
  obtain ⟨a2, rfl, rfl, rfl, w2⟩ := open_int Tryz.underlying5 (hval 2 5 v2 rfl rfl) h2
  obtain ⟨a3, rfl, rfl, rfl, w3⟩ := open_int Tryz.underlying5 (hval 3 5 v3 rfl rfl) h3
  clear hA0 hval0 hval hA
  simp only [List.append_nil] at hW'
  simp only [List.append_nil] at hAk hlt
  refine (decides_law _ l0 a1 a2 a3 W hl0 (bounds_u8 w1) (bounds_u8 w2) (bounds_u8 w3)).mono fun e W' ⟨he, hg⟩ => ?_
  subst he
  refine ⟨_, rfl, post_below (pv := []) hW' hg (fun _ _ _ => (trodAll_cons_mk (shut_bool Tryz.underlying4 _) trodAll_mk0)) (fun sp hsp => ?_) (fun _ _ => rfl) (List.append_nil _).symm
    (ok_one (by kernel_rfl) rfl (okWide_bool_mk Tryz.underlying4 _))⟩
  rw [Tryz.params15]
  refine args_stay laid_out hg (fun t ht => ?_) hAk hlt sp (fun x hx => hsp x (by first | exact hx | simpa using hx))
  simp only [List.mem_cons, List.not_mem_nil, or_false] at ht
  rcases ht with rfl | rfl | rfl | rfl
  · exact ⟨by kernel_rfl, by have h : decide (50 < Tryz.prog.types.size) = true := (by kernel_rfl); exact of_decide_eq_true h⟩
  · exact ⟨by kernel_rfl, by have h : decide (5 < Tryz.prog.types.size) = true := (by kernel_rfl); exact of_decide_eq_true h⟩
  · exact ⟨by kernel_rfl, by have h : decide (5 < Tryz.prog.types.size) = true := (by kernel_rfl); exact of_decide_eq_true h⟩
  · exact ⟨by kernel_rfl, by have h : decide (5 < Tryz.prog.types.size) = true := (by kernel_rfl); exact of_decide_eq_true h⟩

theorem flashDecides_over : Rows.flashDecidesRow.holds Tryz.pinned (OpenSpec.ofChange Rows.flashDecidesSpec) :=
  OpenClaim.holds_of_wide 15 Tryz.f15 rfl rfl rfl rfl rfl rfl rfl ⟨rfl, rfl, rfl, rfl, rfl⟩ rfl rfl rfl rfl rfl (by kernel_rfl) Tryz.func15 (by kernel_rfl)
    (of_decide_eq_true (by kernel_rfl)) (by unfold Func.isWrapper; first | (rw [if_pos (by decide +kernel)]; kernel_rfl) | (rw [if_neg (by decide +kernel)]; exact ⟨rfl, rfl⟩))
    (fun os started H enc _ => flashDecides_lifted os started H enc)

theorem FlashDecides_holds : Rows.FlashDecidesSaid := flashDecides_over

end Go.Proofs.YtonekgefegfapaaGreat

