/-
  PLAIN: what a right plan is, and its changes, as the program and the reference reckon them; WALKS of the reference's Changes, the law's before, and changesOf. Conditions: keys are small.
-/
import Derived.Test.YtkhfkmfofhnmdaaEb
import Derived.Test.YtkhfkmfofhnmdaaEa
import Derived.Test.YtkhfkmfofhnmdaaDq
namespace Go.Proofs.Ytkhfkmfofhnmdaa
open Go.RowKit Go.Shelf
attribute [local go_sem] Oper.semAt_some

def freesB (n : Nat) (ls : List Ls) : Nat → List Int → Bool
  | _, [] => true
  | d, k :: l => freeB n ls k d && freesB n ls (d + 1) l
def cnt (t : List Int) (j : Nat) : Int := (t.count (j : Int) : Nat)
def usedB (most : Int) (l : List Int) : Bool := decide (cnt l 0 ≤ most) && (decide (cnt l 1 ≤ most) && (decide (cnt l 2 ≤ most) && (decide (cnt l 3 ≤ most) && decide (cnt l 4 ≤ most))))
def okB (b : Bk) (ls : List Ls) (most : Int) (l : List Int) : Bool := (l.all fun k => belowB k b.ks.length) && (freesB b.ds.length ls 0 l && usedB most l)
/-- Whether a list is a right plan. -/
def rightB (b : Bk) (ls : List Ls) (most : Int) (l : List Int) : Bool := decide (l.length = b.ds.length) && okB b ls most l
theorem freesB_append (n : Nat) (ls : List Ls) : ∀ (d : Nat) (t u : List Int), freesB n ls d (t ++ u) = (freesB n ls d t && freesB n ls (d + t.length) u)
  | d, [], u => by simp [freesB]
  | d, a :: t, u => by
    rw [List.cons_append, freesB, freesB, freesB_append n ls (d + 1) t u, List.length_cons, Bool.and_assoc, show d + (t.length + 1) = d + 1 + t.length by omega]
theorem cnt_append (t : List Int) (k j : Nat) : cnt (t ++ [(k : Int)]) j = cnt t j + if j = k then 1 else 0 := by
  unfold cnt
  rw [List.count_append]
  by_cases h : j = k
  · subst h; simp
  · have : List.count (j : Int) [(k : Int)] = 0 := by
      rw [List.count_eq_zero]
      simp
      omega
    rw [this, if_neg h]
    simp
theorem cnt_in (t : List Int) (j : Nat) : 0 ≤ cnt t j ∧ cnt t j ≤ t.length := by
  unfold cnt
  have := List.count_le_length (a := (j : Int)) (l := t)
  omega
theorem cnt_take (l : List Int) (k j : Nat) : cnt (l.take k) j ≤ cnt l j := by
  unfold cnt
  have := List.Sublist.count_le (j : Int) (List.take_sublist k l)
  omega
theorem usedB_iff {most : Int} {l : List Int} : usedB most l = true ↔ ∀ j, j < 5 → cnt l j ≤ most := by
  simp only [usedB, Bool.and_eq_true, decide_eq_true_eq]
  constructor
  · rintro ⟨h0, h1, h2, h3, h4⟩ j hj
    rcases j with _ | _ | _ | _ | _ | j <;> first | omega | assumption
  · intro h
    exact ⟨h 0 (by omega), h 1 (by omega), h 2 (by omega), h 3 (by omega), h 4 (by omega)⟩
def usedC (t : List Int) : Array Value := #[iv (cnt t 0), iv (cnt t 1), iv (cnt t 2), iv (cnt t 3), iv (cnt t 4)]
theorem usedC_at {t : List Int} {k : Nat} (hk : k < 5) : (usedC t)[k]? = some (iv (cnt t k)) := by
  rcases k with _ | _ | _ | _ | _ | k <;> first | omega | rfl
theorem usedC_put {t : List Int} {k : Nat} (hk : k < 5) : (usedC t).setIfInBounds k (iv (cnt t k + 1)) = usedC (t ++ [(k : Int)]) := by
  unfold usedC
  simp only [cnt_append]
  rcases k with _ | _ | _ | _ | _ | k <;> first | omega | simp
theorem take_one {l : List Int} {k : Nat} {x : Int} (h : l[k]? = some x) : l.take (k + 1) = l.take k ++ [x] := by
  rw [List.take_add_one, h]
  rfl
theorem all_part {p : Int → Bool} {l : List Int} {k : Nat} {x : Int} (h : l[k]? = some x) (hx : p x = false) : l.all p = false := by
  rw [Bool.eq_false_iff]
  intro ha
  have := List.all_eq_true.1 ha x (List.mem_of_getElem? h)
  rw [hx] at this
  cases this
theorem freesB_part {n : Nat} {ls : List Ls} {l : List Int} {k : Nat} {x : Int} (h : l[k]? = some x) (hx : freeB n ls x k = false) : freesB n ls 0 l = false := by
  have e : l = l.take k ++ x :: l.drop (k + 1) := by
    have := List.take_append_drop k l
    rw [List.drop_eq_getElem_cons (by exact (List.getElem?_eq_some_iff.1 h).1)] at this
    rw [(List.getElem?_eq_some_iff.1 h).2] at this
    exact this.symm
  have hl : (l.take k).length = k := by rw [List.length_take]; have := (List.getElem?_eq_some_iff.1 h).1; omega
  rw [e, freesB_append, hl, freesB, Nat.zero_add, hx]
  simp
theorem usedB_part {most : Int} {l : List Int} {k j : Nat} (hj : j < 5) (h : most < cnt (l.take k) j) : usedB most l = false := by
  rw [Bool.eq_false_iff]
  intro hu
  have := usedB_iff.1 hu j hj
  have := cnt_take l k j
  omega
theorem cnt_none (j : Nat) : cnt [] j = 0 := rfl
/-- A right plan, as the best one is looked for. -/
theorem okP_iff {n : Nat} {ls : List Ls} {most : Int} {m : Nat} (hm : m ≤ 5) : ∀ (p : List Nat) (x : Eve) (d : Nat), x.day = d → (∀ j, j < 5 → x.used j ≤ most) →
    (okP m most (freeB n ls) x p ↔ (∀ k ∈ p, k < m) ∧ freesB n ls d (p.map fun k : Nat => (k : Int)) = true ∧ ∀ j, j < 5 → x.used j + cnt (p.map fun k : Nat => (k : Int)) j ≤ most)
  | [], x, d, _, hu => by
    simp only [okP, List.map_nil, freesB, cnt_none, true_iff]
    exact ⟨fun k h => by simp at h, trivial, fun j hj => by have := hu j hj; omega⟩
  | k :: p, x, d, hd, hu => by
    have e1 : (x.next k).day = ((d + 1 : Nat) : Int) := by
      have : (x.next k).day = x.day + 1 := by rcases k with _ | _ | _ | _ | k <;> rfl
      omega
    have hc : ∀ j, cnt ((k :: p).map fun k : Nat => (k : Int)) j = cnt (p.map fun k : Nat => (k : Int)) j + if j = k then 1 else 0 := fun j => by
      unfold cnt
      rw [List.map_cons, List.count_cons]
      by_cases h : j = k
      · subst h; simp
      · have : ((k : Int) == (j : Int)) = false := by rw [beq_eq_false_iff_ne]; omega
        rw [this, if_neg h]
        simp
    constructor
    · rintro ⟨h1, h2, h3, h4⟩
      have hk := hu k (by omega)
      have ih := (okP_iff hm p (x.next k) (d + 1) e1 (fun j hj => by
        rw [used_next (by omega) hj]
        have := hu j hj
        split
        · rename_i e; subst e; omega
        · omega)).1 h4
      refine ⟨fun q hq => ?_, ?_, fun j hj => ?_⟩
      · rcases List.mem_cons.1 hq with rfl | hq
        · exact h1
        · exact ih.1 q hq
      · rw [List.map_cons, freesB, ih.2.1, ← hd, h2]; rfl
      · have := ih.2.2 j hj
        rw [used_next (by omega) hj] at this
        rw [hc]
        omega
    · rintro ⟨h1, h2, h3⟩
      have hk := h1 k (List.mem_cons_self ..)
      rw [List.map_cons, freesB, Bool.and_eq_true] at h2
      have h3k := h3 k (by omega)
      rw [hc, if_pos rfl] at h3k
      have hcn := (cnt_in (p.map fun k : Nat => (k : Int)) k).1
      refine ⟨hk, by rw [hd]; exact h2.1, by omega, (okP_iff hm p (x.next k) (d + 1) e1 (fun j hj => ?_)).2 ⟨fun q hq => h1 q (List.mem_cons_of_mem _ hq), h2.2, fun j hj => ?_⟩⟩
      · rw [used_next (by omega) hj]
        have := hu j hj
        split
        · rename_i e; subst e; omega
        · omega
      · rw [used_next (by omega) hj]
        have := h3 j hj
        rw [hc] at this
        omega
theorem right_iff {b : Bk} {ls : List Ls} {most : Int} {p : List Nat} (hm : b.ks.length ≤ 5) (h0 : 0 ≤ most) : rightB b ls most (p.map fun k : Nat => (k : Int)) = true ↔ rightP b ls most p := by
  unfold rightB okB rightP
  rw [okP_iff hm p eve0 0 rfl (fun j _ => by rw [eve0_used]; exact h0)]
  simp only [Bool.and_eq_true, decide_eq_true_eq, List.length_map, List.all_eq_true, usedB_iff, eve0_used, Int.zero_add]
  constructor
  · rintro ⟨h1, h2, h3, h4⟩
    exact ⟨h1, fun k hk => by have := belowB_iff.1 (h2 _ (List.mem_map.2 ⟨k, hk, rfl⟩)); omega, h3, h4⟩
  · rintro ⟨h1, h2, h3, h4⟩
    refine ⟨h1, fun k hk => ?_, h3, h4⟩
    obtain ⟨q, hq, rfl⟩ := List.mem_map.1 hk
    have := h2 q hq
    rw [belowB_iff]
    omega

/-- The changes of a list behind the number a. -/
def chL : Int → List Int → Int
  | _, [] => 0
  | a, k :: l => (if a = -1 ∨ a = k then 0 else 1) + chL k l
theorem next_last (x : Eve) (k : Nat) : (x.next k).last = k := by rcases k with _ | _ | _ | _ | k <;> first | rfl | simp [Eve.next]
theorem cost_ch : ∀ (p : List Nat) (x : Eve), costP x p = chL x.last (p.map fun k : Nat => (k : Int))
  | [], _ => rfl
  | k :: p, x => by
    rw [costP, cost_ch p (x.next k), next_last, List.map_cons, chL]
    rfl
theorem chL_append : ∀ (a : Int) (t : List Int) (k : Int), chL a (t ++ [k]) = chL a t + if t.getLastD a = -1 ∨ t.getLastD a = k then 0 else 1
  | a, [], k => by simp [chL]
  | a, b :: t, k => by
    rw [List.cons_append, chL, chL, chL_append b t k, List.getLastD_cons]
    omega
theorem chL_in : ∀ (a : Int) (t : List Int), 0 ≤ chL a t ∧ chL a t ≤ t.length
  | _, [] => by simp [chL]
  | a, k :: t => by
    have := chL_in k t
    simp only [chL, List.length_cons]
    split <;> omega
theorem last_take {l : List Int} {d : Nat} {y : Int} (h1 : 1 ≤ d) (hy : l[d - 1]? = some y) : (l.take d).getLastD (-1) = y := by
  have hl := (List.getElem?_eq_some_iff.1 hy).1
  rw [List.getLastD_eq_getLast?, List.getLast?_eq_getElem?, List.length_take, show min d l.length - 1 = d - 1 by omega, List.getElem?_take, if_pos (by omega), hy]
  rfl
set_option maxRecDepth 100000 in
set_option maxHeartbeats 1000000 in
theorem RChanges_any (v : Value) (l : List Int) (w : World) (hl : IntsAt w v l) (hin : ∀ x ∈ l, 0 ≤ x) :
    Calls Try.prog 38 #[v] w fun r w' => r = .returned (iv (chL (-1) l)) ∧ Below w.heap.size w w' := by
  obtain ⟨hlen, A, cap, rfl, _, _⟩ := hl.form
  have HL := Lib.hid hl
  have HI := Lib.hid hin
  clear hl hin
  go_enter Try.func38, Try.ntmps38
  go_wp2_with fail
  go_loopw [3, 4] (fun n i wr => ∃ d : Nat, 1 ≤ d ∧ i = .int .i64 d ∧ n = .int .i64 (chL (-1) (l.take d)) ∧ Hid (d ≤ max 1 l.length) ∧ Hid (Below w.heap.size w wr)) (fun _ i _ => l.length - (intOf i).toNat)
  case atStart =>
    refine ⟨1, by omega, rfl, ?_, Lib.hid (by omega), up0⟩
    cases l with
    | nil => rfl
    | cons a r => simp [chL]
  case round =>
    obtain ⟨d, hd, rfl, rfl, Hd, HB⟩ := hrel
    have d0 : (0 : Int) ≤ (d : Int) := by omega
    by_cases hlt : d < l.length
    · obtain ⟨x, hx⟩ : ∃ x, l[d]? = some x := ⟨_, List.getElem?_eq_getElem hlt⟩
      obtain ⟨q, hq⟩ : ∃ q, d - 1 = q := ⟨_, rfl⟩
      obtain ⟨y, hy⟩ : ∃ y, l[q]? = some y := ⟨_, List.getElem?_eq_getElem (by omega)⟩
      have HR := Lib.hid (HL.out.kept HB.out)
      obtain ⟨b1, o1, rfl, _, _⟩ := HR.out.at rfl hx
      have hy0 := HI.out y (List.mem_of_getElem? hy)
      have hs := chL_in (-1) (l.take d)
      rw [List.length_take] at hs
      have hst := chL_append (-1) (l.take d) x
      rw [last_take (y := y) hd (by rw [hq]; exact hy), ← take_one hx] at hst
      have hW : IntKind.i64.wrap ((d : Int) - 1) = (q : Int) := by rw [show (q : Int) = (d : Int) - 1 by omega]; exact wrapK_in _ 2000 (by omega) (by omega)
      obtain ⟨S, hS⟩ : ∃ S, chL (-1) (l.take d) = S := ⟨_, rfl⟩
      rw [hS] at hst hs ⊢
      have hW2 : IntKind.i64.wrap (S + 1) = S + 1 := wrapK_in _ 3000 (by omega) (by omega)
      have q0' : (0 : Int) ≤ (q : Int) := by omega
      have q1' : (q : Int) < (l.length : Int) := by omega
      have d1 : (d : Int) < (l.length : Int) := by omega
      have Hx := Lib.hid hx
      have Hy := Lib.hid hy
      have Hst := Lib.hid hst
      clear hx hy hst hq hS
      by_cases hxy : x = y
      · have e1 : (x == y) = true := by rw [beq_iff_eq]; exact hxy
        have Hn := Lib.hid (show chL (-1) (l.take (d + 1)) = S by rw [Hst.out, if_pos (.inr hxy.symm)]; omega)
        clear hxy
        go_wp2_with fail
        apply wp_region_by 10 [(Fact.eq _), (Fact.eq _), (Fact.eq _), (Fact.eq _), (Fact.eq _), (Fact.eq _), (Fact.eq _), (Fact.eq _), (Fact.eq _), (Fact.eq _)]
        case hm => kernel_rfl
        case hB => kernel_rfl
        case hA => (intro vs; simp only [List.take_succ_cons, List.take_zero, putAll, if_true, Act.put, List.setIfInBounds_toArray, List.set_cons_zero, List.set_cons_succ]; exact rfl)
        case hstep =>
          intro vs
          refine And.intro (fun w hw hd => ?_) ?_
          · refine ite_yes rfl ?_
            simp only [Gives]
            go_simp
            exact ⟨Below.refl _ _, rfl, fun h => by cases h⟩
          refine And.intro (fun w hw hd => ?_) ?_
          · refine ite_yes rfl ?_
            simp only [Gives]
            go_simp
            exact ⟨Below.refl _ _, rfl, fun h => by cases h⟩
          refine And.intro (fun w hw hd => ?_) ?_
          · have d0 := hd 0 (by decide) rfl
            change vs 0 = _ at d0
            have d1 := hd 1 (by decide) rfl
            change vs 1 = _ at d1
            refine ite_yes rfl ?_
            simp only [Gives]
            go_simp
            exact ⟨Below.refl _ _, rfl, fun h => by cases h⟩
          refine And.intro (fun w hw hd => ?_) ?_
          · have d2 := hd 2 (by decide) rfl
            change vs 2 = _ at d2
            refine ite_yes rfl ?_
            have q0 : w.cell? ⟨b1, o1 + d, none⟩ = some (.int .i64 x) := by simpa using (HR.out.kept hw).cellAt Hx.out (j := 0) rfl
            have q1 : w.cell? ⟨b1, o1 + q, none⟩ = some (.int .i64 y) := by simpa using (HR.out.kept hw).cellAt Hy.out (j := 0) rfl
            simp only [Gives]
            go_simp
            exact ⟨Below.refl _ _, rfl, fun h => by cases h⟩
          refine And.intro (fun w hw hd => ?_) ?_
          · refine ite_yes rfl ?_
            simp only [Gives]
            go_simp
            exact ⟨Below.refl _ _, rfl, fun h => by cases h⟩
          refine And.intro (fun w hw hd => ?_) ?_
          · refine ite_yes rfl ?_
            simp only [Gives]
            go_simp
            exact ⟨Below.refl _ _, rfl, fun h => by cases h⟩
          refine And.intro (fun w hw hd => ?_) ?_
          · have d5 := hd 5 (by decide) rfl
            change vs 5 = _ at d5
            refine ite_yes rfl ?_
            simp only [Gives]
            go_simp
            exact ⟨Below.refl _ _, rfl, fun h => by cases h⟩
          refine And.intro (fun w hw hd => ?_) ?_
          · have d4 := hd 4 (by decide) rfl
            change vs 4 = _ at d4
            have d6 := hd 6 (by decide) rfl
            change vs 6 = _ at d6
            refine ite_yes rfl ?_
            simp only [Gives]
            go_simp
            exact ⟨Below.refl _ _, rfl, fun h => by cases h⟩
          refine And.intro (fun w hw hd => ?_) ?_
          · have d7 := hd 7 (by decide) rfl
            change vs 7 = _ at d7
            refine ite_yes rfl ?_
            have q0 : w.cell? ⟨b1, o1 + d, none⟩ = some (.int .i64 x) := by simpa using (HR.out.kept hw).cellAt Hx.out (j := 0) rfl
            have q1 : w.cell? ⟨b1, o1 + q, none⟩ = some (.int .i64 y) := by simpa using (HR.out.kept hw).cellAt Hy.out (j := 0) rfl
            simp only [Gives]
            go_simp
            exact ⟨Below.refl _ _, rfl, fun h => by cases h⟩
          refine And.intro (fun w hw hd => ?_) ?_
          · have d3 := hd 3 (by decide) rfl
            change vs 3 = _ at d3
            have d8 := hd 8 (by decide) rfl
            change vs 8 = _ at d8
            refine ite_yes rfl ?_
            simp only [Gives]
            go_simp
            exact ⟨Below.refl _ _, rfl, fun h => by cases h⟩
          exact trivial
        intro vs wt hw hd hne hlo
        have d0 := hd 0 (by decide)
        change vs 0 = _ at d0
        have d1 := hd 1 (by decide)
        change vs 1 = _ at d1
        have d2 := hd 2 (by decide)
        change vs 2 = _ at d2
        have d3 := hd 3 (by decide)
        change vs 3 = _ at d3
        have d4 := hd 4 (by decide)
        change vs 4 = _ at d4
        have d5 := hd 5 (by decide)
        change vs 5 = _ at d5
        have d6 := hd 6 (by decide)
        change vs 6 = _ at d6
        have d7 := hd 7 (by decide)
        change vs 7 = _ at d7
        have d8 := hd 8 (by decide)
        change vs 8 = _ at d8
        have d9 := hd 9 (by decide)
        change vs 9 = _ at d9
        simp only [d0, d1, d2, d3, d4, d5, d6, d7, d8, d9, List.drop_succ_cons, List.drop_nil]
        clear hd hne hlo d0 d1 d2 d3 d4 d5 d6 d7 d8 d9
        go_wp2_with fail
        go_roundw
        case rel => exact ⟨d + 1, by omega, by go_num, by rw [Hn.out], Lib.hid (by omega), up_later HB.out hw⟩
        case measure => simp [intOf]; omega
      · have e1 : (x == y) = false := by rw [beq_eq_false_iff_ne]; exact hxy
        have Hn := Lib.hid (show chL (-1) (l.take (d + 1)) = S + 1 by rw [Hst.out, if_neg (by omega)])
        clear hxy
        go_wp2_with fail
        apply wp_region_by 10 [(Fact.eq _), (Fact.eq _), (Fact.eq _), (Fact.eq _), (Fact.eq _), (Fact.eq _), (Fact.eq _), (Fact.eq _), (Fact.eq _), (Fact.eq _)]
        case hm => kernel_rfl
        case hB => kernel_rfl
        case hA => (intro vs; simp only [List.take_succ_cons, List.take_zero, putAll, if_true, Act.put, List.setIfInBounds_toArray, List.set_cons_zero, List.set_cons_succ]; exact rfl)
        case hstep =>
          intro vs
          refine And.intro (fun w hw hd => ?_) ?_
          · refine ite_yes rfl ?_
            simp only [Gives]
            go_simp
            exact ⟨Below.refl _ _, rfl, fun h => by cases h⟩
          refine And.intro (fun w hw hd => ?_) ?_
          · refine ite_yes rfl ?_
            simp only [Gives]
            go_simp
            exact ⟨Below.refl _ _, rfl, fun h => by cases h⟩
          refine And.intro (fun w hw hd => ?_) ?_
          · have d0 := hd 0 (by decide) rfl
            change vs 0 = _ at d0
            have d1 := hd 1 (by decide) rfl
            change vs 1 = _ at d1
            refine ite_yes rfl ?_
            simp only [Gives]
            go_simp
            exact ⟨Below.refl _ _, rfl, fun h => by cases h⟩
          refine And.intro (fun w hw hd => ?_) ?_
          · have d2 := hd 2 (by decide) rfl
            change vs 2 = _ at d2
            refine ite_yes rfl ?_
            have q0 : w.cell? ⟨b1, o1 + d, none⟩ = some (.int .i64 x) := by simpa using (HR.out.kept hw).cellAt Hx.out (j := 0) rfl
            have q1 : w.cell? ⟨b1, o1 + q, none⟩ = some (.int .i64 y) := by simpa using (HR.out.kept hw).cellAt Hy.out (j := 0) rfl
            simp only [Gives]
            go_simp
            exact ⟨Below.refl _ _, rfl, fun h => by cases h⟩
          refine And.intro (fun w hw hd => ?_) ?_
          · refine ite_yes rfl ?_
            simp only [Gives]
            go_simp
            exact ⟨Below.refl _ _, rfl, fun h => by cases h⟩
          refine And.intro (fun w hw hd => ?_) ?_
          · refine ite_yes rfl ?_
            simp only [Gives]
            go_simp
            exact ⟨Below.refl _ _, rfl, fun h => by cases h⟩
          refine And.intro (fun w hw hd => ?_) ?_
          · have d5 := hd 5 (by decide) rfl
            change vs 5 = _ at d5
            refine ite_yes rfl ?_
            simp only [Gives]
            go_simp
            exact ⟨Below.refl _ _, rfl, fun h => by cases h⟩
          refine And.intro (fun w hw hd => ?_) ?_
          · have d4 := hd 4 (by decide) rfl
            change vs 4 = _ at d4
            have d6 := hd 6 (by decide) rfl
            change vs 6 = _ at d6
            refine ite_yes rfl ?_
            simp only [Gives]
            go_simp
            exact ⟨Below.refl _ _, rfl, fun h => by cases h⟩
          refine And.intro (fun w hw hd => ?_) ?_
          · have d7 := hd 7 (by decide) rfl
            change vs 7 = _ at d7
            refine ite_yes rfl ?_
            have q0 : w.cell? ⟨b1, o1 + d, none⟩ = some (.int .i64 x) := by simpa using (HR.out.kept hw).cellAt Hx.out (j := 0) rfl
            have q1 : w.cell? ⟨b1, o1 + q, none⟩ = some (.int .i64 y) := by simpa using (HR.out.kept hw).cellAt Hy.out (j := 0) rfl
            simp only [Gives]
            go_simp
            exact ⟨Below.refl _ _, rfl, fun h => by cases h⟩
          refine And.intro (fun w hw hd => ?_) ?_
          · have d3 := hd 3 (by decide) rfl
            change vs 3 = _ at d3
            have d8 := hd 8 (by decide) rfl
            change vs 8 = _ at d8
            refine ite_yes rfl ?_
            simp only [Gives]
            go_simp
            exact ⟨Below.refl _ _, rfl, fun h => by cases h⟩
          exact trivial
        intro vs wt hw hd hne hlo
        have d0 := hd 0 (by decide)
        change vs 0 = _ at d0
        have d1 := hd 1 (by decide)
        change vs 1 = _ at d1
        have d2 := hd 2 (by decide)
        change vs 2 = _ at d2
        have d3 := hd 3 (by decide)
        change vs 3 = _ at d3
        have d4 := hd 4 (by decide)
        change vs 4 = _ at d4
        have d5 := hd 5 (by decide)
        change vs 5 = _ at d5
        have d6 := hd 6 (by decide)
        change vs 6 = _ at d6
        have d7 := hd 7 (by decide)
        change vs 7 = _ at d7
        have d8 := hd 8 (by decide)
        change vs 8 = _ at d8
        have d9 := hd 9 (by decide)
        change vs 9 = _ at d9
        simp only [d0, d1, d2, d3, d4, d5, d6, d7, d8, d9, List.drop_succ_cons, List.drop_nil]
        clear hd hne hlo d0 d1 d2 d3 d4 d5 d6 d7 d8 d9
        go_wp2_with fail
        go_roundw
        case rel => exact ⟨d + 1, by omega, by go_num, by rw [Hn.out], Lib.hid (by omega), up_later HB.out hw⟩
        case measure => simp [intOf]; omega
    · have H := Lib.hid (show chL (-1) (l.take d) = chL (-1) l by rw [List.take_of_length_le (by omega)])
      go_wp2_with fail
      go_ret
      exact ⟨ret_int H.out, HB.out⟩
end Go.Proofs.Ytkhfkmfofhnmdaa
